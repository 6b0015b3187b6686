/-
  Texts that the statements stand on, part 5.
-/
import Derived.Test.YtejljfoacbpliaaMd
import Derived.Deep.DeepCutAuto
import Derived.Deep.CutBlock
import Derived.Deep.QuietTactic
import Derived.BigQuiet
import Derived.StillTailTactics
import Derived.Laws.Rows
import Derived.Deep.MidRow
import Derived.Great.BuildSlice
import Derived.WalkKit
import Derived.Laws.BitsAllLaws
import Derived.Lib.OwnKind
set_option linter.unusedVariables false
set_option linter.unusedSimpArgs false
namespace Go.Proofs.Ytejljfoacbpliaa
open Go Go.RowKit
def aw7N : Nd := (treeL [110, 111, 100, 101, 32, 102, 40, 120, 58, 32, 105, 110, 116, 41, 32, 114, 101, 116, 117, 114, 110, 115, 32, 40, 121, 58, 32, 98, 111, 111, 108, 41, 59, 32, 108, 101, 116, 32, 121, 32, 61, 32, 120, 32, 60, 32, 49, 59, 32, 116, 101, 108]).getD 0 (⟨⟨#[]⟩, [], [], [], [], 0⟩ : Nd)
def aw7Q : Qe := aw7N.eqs.getD 0 (⟨⟨#[]⟩, exZ, 0⟩ : Qe)
theorem aw7_tree : treeL [110, 111, 100, 101, 32, 102, 40, 120, 58, 32, 105, 110, 116, 41, 32, 114, 101, 116, 117, 114, 110, 115, 32, 40, 121, 58, 32, 98, 111, 111, 108, 41, 59, 32, 108, 101, 116, 32, 121, 32, 61, 32, 120, 32, 60, 32, 49, 59, 32, 116, 101, 108] = [aw7N] := by kernel_rfl
theorem aw7_eqs : aw7N.eqs = [aw7Q] := by kernel_rfl
theorem aw7_ok : okNd aw7N = true := by kernel_rfl
theorem aw7_okE : okE aw7Q.e = true := by kernel_rfl
theorem aw7_typ : typF [aw7N] = none := by kernel_rfl
theorem aw7_of : kdOf (kindF (([aw7N] : List Nd).take 0) (declK (declsOf aw7N)) aw7Q.e) = 1 := by kernel_rfl
theorem aw7_bad : typF (treeL [110, 111, 100, 101, 32, 102, 40, 41, 32, 114, 101, 116, 117, 114, 110, 115, 32, 40, 121, 58, 32, 105, 110, 116, 41, 59, 32, 108, 101, 116, 32, 121, 32, 61, 32, 49, 32, 43, 32, 116, 114, 117, 101, 59, 32, 116, 101, 108]) = some 37 := by kernel_rfl
theorem aw7_okB : (treeL [110, 111, 100, 101, 32, 102, 40, 41, 32, 114, 101, 116, 117, 114, 110, 115, 32, 40, 121, 58, 32, 105, 110, 116, 41, 59, 32, 108, 101, 116, 32, 121, 32, 61, 32, 49, 32, 43, 32, 116, 114, 117, 101, 59, 32, 116, 101, 108]).all okNd = true := by kernel_rfl
theorem okNd_all {l : List Nd} (h : l.all okNd = true) : ∀ (i : Nat) (hi : i < l.length), okNd l[i] = true := fun i hi => List.all_eq_true.1 h _ (List.getElem_mem hi)
theorem eq_b (W : World) : (binOp .eql 30 (.agg #[.int .i64 9, .int .i64 37]) (.agg #[.int .i64 9, .int .i64 37])).run Try.prog W = .ok (.bool true) W := by kernel_rfl
theorem eq_f0 (W : World) : (binOp .eql 32 (.agg #[.int .i64 0, .int .i64 0]) (.agg #[.int .i64 0, .int .i64 0])).run Try.prog W = .ok (.bool true) W := by kernel_rfl
theorem aw7_facts : ∃ (nd : Nd) (q : Qe), treeOf (⟨#[110, 111, 100, 101, 32, 102, 40, 120, 58, 32, 105, 110, 116, 41, 32, 114, 101, 116, 117, 114, 110, 115, 32, 40, 121, 58, 32, 98, 111, 111, 108, 41, 59, 32, 108, 101, 116, 32, 121, 32, 61, 32, 120, 32, 60, 32, 49, 59, 32, 116, 101, 108]⟩ : ByteArray) = [nd] ∧ nd.eqs = [q] ∧ okNd nd = true ∧ okE q.e = true ∧ typF [nd] = none ∧ kdOf (kindF (([nd] : List Nd).take 0) (declK (declsOf nd)) q.e) = 1 :=
  ⟨aw7N, aw7Q, by rw [treeOf_list]; exact aw7_tree, aw7_eqs, aw7_ok, aw7_okE, aw7_typ, aw7_of⟩
theorem aw7_factB : typF (treeOf (⟨#[110, 111, 100, 101, 32, 102, 40, 41, 32, 114, 101, 116, 117, 114, 110, 115, 32, 40, 121, 58, 32, 105, 110, 116, 41, 59, 32, 108, 101, 116, 32, 121, 32, 61, 32, 49, 32, 43, 32, 116, 114, 117, 101, 59, 32, 116, 101, 108]⟩ : ByteArray)) = some 37 ∧ ∀ (i : Nat) (h : i < (treeOf (⟨#[110, 111, 100, 101, 32, 102, 40, 41, 32, 114, 101, 116, 117, 114, 110, 115, 32, 40, 121, 58, 32, 105, 110, 116, 41, 59, 32, 108, 101, 116, 32, 121, 32, 61, 32, 49, 32, 43, 32, 116, 114, 117, 101, 59, 32, 116, 101, 108]⟩ : ByteArray)).length), okNd (treeOf (⟨#[110, 111, 100, 101, 32, 102, 40, 41, 32, 114, 101, 116, 117, 114, 110, 115, 32, 40, 121, 58, 32, 105, 110, 116, 41, 59, 32, 108, 101, 116, 32, 121, 32, 61, 32, 49, 32, 43, 32, 116, 114, 117, 101, 59, 32, 116, 101, 108]⟩ : ByteArray))[i] = true := by
  have e : treeOf (⟨#[110, 111, 100, 101, 32, 102, 40, 41, 32, 114, 101, 116, 117, 114, 110, 115, 32, 40, 121, 58, 32, 105, 110, 116, 41, 59, 32, 108, 101, 116, 32, 121, 32, 61, 32, 49, 32, 43, 32, 116, 114, 117, 101, 59, 32, 116, 101, 108]⟩ : ByteArray) = treeL [110, 111, 100, 101, 32, 102, 40, 41, 32, 114, 101, 116, 117, 114, 110, 115, 32, 40, 121, 58, 32, 105, 110, 116, 41, 59, 32, 108, 101, 116, 32, 121, 32, 61, 32, 49, 32, 43, 32, 116, 114, 117, 101, 59, 32, 116, 101, 108] := treeOf_list _
  rw [e]
  exact ⟨aw7_bad, okNd_all aw7_okB⟩
theorem one_at {nd : Nd} (h : okNd nd = true) : ∀ (i : Nat) (hi : i < [nd].length), okNd [nd][i] = true := fun i hi => by
  have : i = 0 := by simp at hi; omega
  subst this
  exact h
set_option maxHeartbeats 4000000 in
set_option maxRecDepth 100000 in
theorem awake7_any (w : World) : Calls Try.prog 10 #[] w (fun e w' => e = .returned (.bool true) ∧ Below w.heap.size w w') := by
  obtain ⟨nd, q, e1, e2, e3, e4, e5, e6⟩ := aw7_facts
  obtain ⟨e7, e8⟩ := aw7_factB
  have kp := parse_at (⟨#[110, 111, 100, 101, 32, 102, 40, 120, 58, 32, 105, 110, 116, 41, 32, 114, 101, 116, 117, 114, 110, 115, 32, 40, 121, 58, 32, 98, 111, 111, 108, 41, 59, 32, 108, 101, 116, 32, 121, 32, 61, 32, 120, 32, 60, 32, 49, 59, 32, 116, 101, 108]⟩ : ByteArray) w (by decide)
  have kf := fun W => fault7_any (⟨#[110, 111, 100, 101, 32, 102, 40, 41, 32, 114, 101, 116, 117, 114, 110, 115, 32, 40, 121, 58, 32, 105, 110, 116, 41, 59, 32, 108, 101, 116, 32, 121, 32, 61, 32, 49, 32, 43, 32, 116, 114, 117, 101, 59, 32, 116, 101, 108]⟩ : ByteArray) W (by decide) e8
  rw [e1] at kp
  unfold GivesO at kf
  rw [e7] at kf
  obtain ⟨q1, hq1⟩ : ∃ q, q = perOf (⟨#[110, 111, 100, 101, 32, 102, 40, 120, 58, 32, 105, 110, 116, 41, 32, 114, 101, 116, 117, 114, 110, 115, 32, 40, 121, 58, 32, 98, 111, 111, 108, 41, 59, 32, 108, 101, 116, 32, 121, 32, 61, 32, 120, 32, 60, 32, 49, 59, 32, 116, 101, 108]⟩ : ByteArray) := ⟨_, rfl⟩
  obtain ⟨q2, hq2⟩ : ∃ q, q = patOf (⟨#[110, 111, 100, 101, 32, 102, 40, 120, 58, 32, 105, 110, 116, 41, 32, 114, 101, 116, 117, 114, 110, 115, 32, 40, 121, 58, 32, 98, 111, 111, 108, 41, 59, 32, 108, 101, 116, 32, 121, 32, 61, 32, 120, 32, 60, 32, 49, 59, 32, 116, 101, 108]⟩ : ByteArray) := ⟨_, rfl⟩
  rw [← hq1, ← hq2] at kp
  have h1l : ([nd] : List Nd).length = 1 := rfl
  have HSB := Lib.hid size_bad
  have HSE := Lib.hid size_eS
  have E2 := Lib.hid e2
  have E3 := Lib.hid e3
  have E4 := Lib.hid e4
  have E5 := Lib.hid e5
  have E6 := Lib.hid e6
  have KF := Lib.hid kf
  clear e1 e2 e3 e4 e5 e6 e7 e8 kf hq1 hq2
  go_enter Try.func10, Try.ntmps10
  go_wp2_with fail
  (with_reducible refine kp.mono ?_)
  rintro e9 w1 ⟨x, c, rfl, hI, hb⟩
  have F1 := ((Fx.start w).call hb).alloc w1.heap.size rfl 30 #[.int .i64 0, .int .i64 0]
  have F2 := F1.store 0 rfl #[.int .i64 (q1 : Int), .int .i64 (q2 : Int)]
  have HN1 := Lib.hid (F1.get 0 rfl)
  have hI2 := IsD.below (new_row w1 30 #[.int .i64 0, .int .i64 0] #[.int .i64 (q1 : Int), .int .i64 (q2 : Int)]).1 hI
  obtain ⟨W2, hW2⟩ : ∃ W2, W2 = ((w1.alloc (.cells #[.int .i64 0, .int .i64 0] 30)).setRow w1.heap.size #[.int .i64 (q1 : Int), .int .i64 (q2 : Int)]) := ⟨_, rfl⟩
  rw [← hW2] at F2 hI2
  have kb := Back_any [nd] W2 (by have := F2.lt_ 0 rfl; omega) _ x c hI2
  rw [hW2, h1l] at kb
  have HF2 := Lib.hid F2
  have HW2 := Lib.hid hW2
  clear F1 F2 hI hI2 hb kp hW2
  go_wp2_with (refine wpList_store_row rfl 30 (.tmp 2) (.tmp 7) rfl w1.heap.size #[.int .i64 (q1 : Int), .int .i64 (q2 : Int)] rfl rfl 30 _ HN1.out HSB.out rfl (fault_one _ _) ?_)
  (with_reducible refine kb.mono ?_)
  rw [← HW2.out]
  rintro e9 w3 ⟨x3, c3, rfl, hI3, hb⟩
  have HF3 := Lib.hid (HF2.out.call hb)
  have HI3 := Lib.hid hI3
  have kf := KF.out w3
  clear hb hI3 kb
  go_wp2_with fail
  (with_reducible refine kf.mono ?_)
  rintro e9 w4 ⟨rfl, hb⟩
  have HF4 := Lib.hid (HF3.out.call hb)
  have HI4 := Lib.hid (IsD.below hb HI3.out)
  have kc := typCheck_any [nd] (one_at E3.out) w4 _ x3 c3 HI4.out
  unfold GivesO at kc
  rw [E5.out, h1l] at kc
  have z1 : ferO 9 none = 0 := rfl
  have z2 : fatO none = 0 := rfl
  have z3 : ferO 9 (some 37) = 9 := rfl
  have z4 : fatO (some 37) = 37 := rfl
  rw [z1, z2] at kc
  rw [z3, z4]
  have b1 := fun W => eq_b W
  clear hb kf z1 z2 z3 z4
  go_wp2_with fail
  (with_reducible refine kc.mono ?_)
  rintro e9 w5 ⟨rfl, hb⟩
  have HF5 := Lib.hid (HF4.out.call hb)
  have hI5 := IsD.below hb HI4.out
  obtain ⟨g, rfl, hg, xi, ci, xo, co, xl, cl, xe, ce, hrg, t1, t2, t3, t4⟩ := nd_at (l := [nd]) hI5 0 (by simp)
  simp only [List.getElem_cons_zero, Nat.zero_mul] at hrg t4
  rw [E2.out] at t4
  obtain ⟨ge, rfl, hge, xk, ck, hre, hkk⟩ := qe_at (l := [q]) t4 0 (by simp)
  simp only [List.getElem_cons_zero, Nat.zero_mul] at hre hkk
  have hcc := IsD.slice hI5
  have hc3 : 1 ≤ c3 := by obtain ⟨x', c', h1, h2, h3⟩ := hcc; injection h1 with _ _ h; subst h; exact h2
  have hce : 1 ≤ ce := by obtain ⟨x', c', h1, h2, h3⟩ := IsD.slice t4; injection h1 with _ _ h; subst h; exact h2
  have c4 : w5.cell? ⟨g, 4, none⟩ = some (.slice (some ⟨ge, 0, none⟩) 1 ce) := by
    have := hrg 4 _ (show (ndC nd xi xo xl (some ⟨ge, 0, none⟩) ci co cl ce)[4]? = some (.slice (some ⟨ge, 0, none⟩) nd.eqs.length ce) from rfl)
    rw [E2.out] at this
    exact this
  have ko := typOf_any [nd] 0 (by simp) E3.out q.e E4.out w5 _ _ _ c3 hI5 xk ck hkk
  rw [show ([nd] : List Nd)[0] = nd from rfl, E6.out] at ko
  have ko : Calls Try.prog 16 #[.slice (some ⟨g, 0, none⟩) 1 c3, .int .i64 0, exV q.e xk ck] w5 (fun en w' => en = .returned (.int .i64 1) ∧ Below w5.heap.size w5 w') := ko
  have p1 : w5.cell? ⟨ge, 1, none⟩ = some (.string q.e.op) := by simpa using hre 1 _ (show (qeC q.name q.e xk ck (q.at_ : Int))[1]? = some (.string q.e.op) from rfl)
  have p2 : w5.cell? ⟨ge, 2, none⟩ = some (.string q.e.name) := by simpa using hre 2 _ (show (qeC q.name q.e xk ck (q.at_ : Int))[2]? = some (.string q.e.name) from rfl)
  have p3 : w5.cell? ⟨ge, 3, none⟩ = some (.int .i64 q.e.n) := by simpa using hre 3 _ (show (qeC q.name q.e xk ck (q.at_ : Int))[3]? = some (.int .i64 q.e.n) from rfl)
  have p4 : w5.cell? ⟨ge, 4, none⟩ = some (.int .i64 (q.e.at_ : Int)) := by simpa using hre 4 _ (show (qeC q.name q.e xk ck (q.at_ : Int))[4]? = some (.int .i64 (q.e.at_ : Int)) from rfl)
  have p5 : w5.cell? ⟨ge, 5, none⟩ = some (.slice xk q.e.kids.length ck) := by simpa using hre 5 _ (show (qeC q.name q.e xk ck (q.at_ : Int))[5]? = some (.slice xk q.e.kids.length ck) from rfl)
  have b2 := fun W => eq_f0 W
  unfold exV at ko
  clear hb kc hI5 hrg t1 t2 t3 t4 hre hkk hcc
  go_wp2_with fail
  (with_reducible refine ko.mono ?_)
  rintro e9 w6 ⟨rfl, hb⟩
  have HF6 := Lib.hid (HF5.out.call hb)
  clear hb ko c4 p1 p2 p3 p4 p5
  go_wp2_with fail
  go_ret
  exact ⟨rfl, HF6.out.below⟩
end Go.Proofs.Ytejljfoacbpliaa

namespace Go.Proofs.Ytejljfoacbpliaa
open Go Go.RowKit
def vars6 (n : Nd) : List Vr := (n.ins ++ n.outs) ++ n.locs
def vrZ : Vr := ⟨⟨#[]⟩, 0, ⟨#[]⟩, false, 0⟩
def qeZ : Qe := ⟨⟨#[]⟩, exZ, 0⟩
def find6 (s : List UInt8) : List Vr → Option Vr
  | [] => none
  | v :: r => if v.name.data.toList = s then some v else find6 s r
def eqOf6 (s : List UInt8) : List Qe → Option Qe
  | [] => none
  | q :: r => if q.name.data.toList = s then some q else eqOf6 s r
def nodeOf6 (s : List UInt8) : List Nd → Nat → Option Nat
  | [], _ => none
  | n :: r, i => if n.name.data.toList = s then some i else nodeOf6 s r (i + 1)
def hasV6 (s : List UInt8) (l : List Vr) : Bool := l.any fun v => decide (v.name.data.toList = s)
theorem results_cell_tmp6 {P : Program} {fn : Func} {q p : Tmp} {ty : TypeId} (h : fn.results = #[.cell p ty, .tmp q]) (tmps : Array Value) (w : World) (g : Nat) (t : TypeId) (cs : Array Value) (fr : Nat × Nat) (d : TypeDesc)
    (hp : tmps.getD p undef = .pointer (some ⟨g, 0, none⟩)) (hg : w.heap[g]? = some (.cells cs t fr))
    (hu : P.underlying ty = some d) (hd : (match d with | .struct _ | .array _ _ => true | _ => false) = true) (hi : (P.info? ty).map (·.size) = some cs.size) :
    (results fn tmps).run P w = .ok (.tuple #[.agg cs, tmps.getD q undef]) w := by
  have hp' : tmps[p]?.getD undef = .pointer (some ⟨g, 0, none⟩) := by simpa using hp
  simp [results, h, hp', asAddr, run_loadVar_row w g t ty cs fr d hg hu hd hi]
def GivesVr (l : List Vr) (w : World) (e : Ending) (w' : World) : Prop := ∃ x c, e = .returned (.slice x l.length c) ∧ IsD (w.heap.size ≤ ·) w' (.slice x l.length c) (.sl l.length (vrsD l)) ∧ Below w.heap.size w w'
theorem own_made0 (w : World) (b : Nat) (hb : b + 1 ≤ w.heap.size) (T : TypeId) (sz : Nat) : OwnD T sz (w.alloc (.cells #[] T)) b (.slice (some ⟨w.heap.size, 0, none⟩) 0 0) 0 [] :=
  ⟨[], World.ownsRow_made w #[] 0 hb (Nat.zero_le _) (by simp), trivial⟩
theorem below_mid {w W W' : World} {b : Nat} {v : Value} {T : TypeId} {sz n : Nat} {ds : List Dt} (h : Below w.heap.size w W) (ho : OwnD T sz W b v n ds) (hb : w.heap.size ≤ b) (hg : W.grownBy W' v.ownBlock) : Below w.heap.size w W' :=
  below_own h hg (fun k hk => by have := (ho.gt k hk).1; omega)
set_option maxHeartbeats 4000000 in
set_option maxRecDepth 100000 in
theorem Vars_any (n : Nd) (hl : (vars6 n).length ≤ 1000000) (w : World) (ok : Nat → Prop) (xi xo xl xe : Option Addr) (ci co cl ce : Nat) (hkn : NdIn ok w n xi xo xl xe ci co cl ce) : Calls Try.prog 21 #[ndV n xi xo xl xe ci co cl ce] w (GivesVr (vars6 n) w) := by
  have HIV := Lib.hid info_v4
  obtain ⟨k1, k2, k3, _⟩ := hkn
  have F0 := (Fx.start w).alloc w.heap.size rfl 38 #[.string n.name, .slice xi n.ins.length ci, .slice xo n.outs.length co, .slice xl n.locs.length cl, .slice xe n.eqs.length ce, .int .i64 (n.at_ : Int)]
  have hs0 : (w.alloc (.cells #[.string n.name, .slice xi n.ins.length ci, .slice xo n.outs.length co, .slice xl n.locs.length cl, .slice xe n.eqs.length ce, .int .i64 (n.at_ : Int)] 38)).heap.size = w.heap.size + 1 := by simp
  have O1 := own_made0 (w.alloc (.cells #[.string n.name, .slice xi n.ins.length ci, .slice xo n.outs.length co, .slice xl n.locs.length cl, .slice xe n.eqs.length ce, .int .i64 (n.at_ : Int)] 38)) w.heap.size (by rw [hs0]; exact Nat.le_refl _) 62 5
  rw [hs0] at O1
  have F1 : Fx w [(w.heap.size, 38, #[.string n.name, .slice xi n.ins.length ci, .slice xo n.outs.length co, .slice xl n.locs.length cl, .slice xe n.eqs.length ce, .int .i64 (n.at_ : Int)])] ((w.alloc (.cells #[.string n.name, .slice xi n.ins.length ci, .slice xo n.outs.length co, .slice xl n.locs.length cl, .slice xe n.eqs.length ce, .int .i64 (n.at_ : Int)] 38)).alloc (.cells #[] 62)) := F0.make (.cells #[] 62)
  obtain ⟨W1, hW1⟩ : ∃ W1, W1 = ((w.alloc (.cells #[.string n.name, .slice xi n.ins.length ci, .slice xo n.outs.length co, .slice xl n.locs.length cl, .slice xe n.eqs.length ce, .int .i64 (n.at_ : Int)] 38)).alloc (.cells #[] 62)) := ⟨_, rfl⟩
  rw [← hW1] at O1 F1
  have hlen : n.ins.length + n.outs.length + n.locs.length ≤ 1000000 := by unfold vars6 at hl; rw [List.length_append, List.length_append] at hl; exact hl
  have HLN := Lib.hid hlen
  have n1 := cell_of_row W1 w.heap.size 1 _ _ _ (F1.get 0 rfl)
  have HO1 := Lib.hid O1
  have HF1 := Lib.hid F1
  have HD1 := Lib.hid (IsD.below F1.below k1)
  have HK2 := Lib.hid k2
  have HK3 := Lib.hid k3
  have HBW1 := Lib.hid (show w.heap.size + 1 ≤ W1.heap.size by have := F1.lt_ 0 rfl; omega)
  have HN1 := Lib.hid (show 0 + n.ins.length ≤ 100000000000 by omega)
  have bs0 : ∀ W : World, (Instr.buildSlice 35 0 #[]).run Try.prog W = .ok (.slice (some ⟨W.heap.size, 0, none⟩) 0 0) (W.alloc (.cells #[] 62)) := fun W => by kernel_rfl
  have HW1 := Lib.hid hW1
  rw [hW1] at n1
  clear O1 F1 F0 k1 k2 k3 hl hlen hs0 hW1
  unfold ndV
  go_enter Try.func21, Try.ntmps21
  go_upto_region 1 with fail
  go_wp2_with (at_builtin; rw [← HW1.out]; refine wpList_appH rfl (.tmp 4) (.tmp 6) 35 rfl 56 Try.underlying35 HIV.out (by decide) (by decide) rfl HO1.out HBW1.out (vrsD n.ins) rfl HD1.out (vrsD_len _) (vrsD_plain _) (vrsD_ones _) HN1.out ?_)
  intro v2 W2 hO2 hg2 _
  have F2 : Fx w [(w.heap.size, 38, #[.string n.name, .slice xi n.ins.length ci, .slice xo n.outs.length co, .slice xl n.locs.length cl, .slice xe n.eqs.length ce, .int .i64 (n.at_ : Int)])] W2 := HF1.out.own hg2 (fun j hj => by
    have := (HO1.out.gt j hj).1
    exact ⟨by omega, fun x hx => by simp only [List.mem_cons, List.not_mem_nil, or_false] at hx; subst hx; show j ≠ w.heap.size; omega⟩)
  obtain ⟨x2, c2, rfl, _, _⟩ := hO2.slice
  have n2 := cell_of_row W2 w.heap.size 2 _ _ _ (F2.get 0 rfl)
  have HO2 := Lib.hid hO2
  have HF2 := Lib.hid F2
  have HD2 := Lib.hid (IsD.below F2.below HK2.out)
  have HBW2 := Lib.hid (show w.heap.size + 1 ≤ W2.heap.size by have := F2.lt_ 0 rfl; omega)
  have HN2 := Lib.hid (show n.ins.length + n.outs.length ≤ 100000000000 by have := HLN.out; omega)
  clear hO2 hg2 F2 n1 bs0
  go_wp2_with (at_builtin; refine wpList_appH rfl (.tmp 8) (.tmp 10) 35 rfl 56 Try.underlying35 HIV.out (by decide) (by decide) rfl HO2.out HBW2.out (vrsD n.outs) rfl HD2.out (vrsD_len _) (vrsD_plain _) (vrsD_ones _) HN2.out ?_)
  intro v3 W3 hO3 hg3 _
  have F3 : Fx w [(w.heap.size, 38, #[.string n.name, .slice xi n.ins.length ci, .slice xo n.outs.length co, .slice xl n.locs.length cl, .slice xe n.eqs.length ce, .int .i64 (n.at_ : Int)])] W3 := HF2.out.own hg3 (fun j hj => by
    have := (HO2.out.gt j hj).1
    exact ⟨by omega, fun x hx => by simp only [List.mem_cons, List.not_mem_nil, or_false] at hx; subst hx; show j ≠ w.heap.size; omega⟩)
  obtain ⟨x3, c3, rfl, _, _⟩ := hO3.slice
  have n3 := cell_of_row W3 w.heap.size 3 _ _ _ (F3.get 0 rfl)
  have HO3 := Lib.hid hO3
  have HF3 := Lib.hid F3
  have HD3 := Lib.hid (IsD.below F3.below HK3.out)
  have HBW3 := Lib.hid (show w.heap.size + 1 ≤ W3.heap.size by have := F3.lt_ 0 rfl; omega)
  have HN3 := Lib.hid (show n.ins.length + n.outs.length + n.locs.length ≤ 100000000000 by have := HLN.out; omega)
  clear hO3 hg3 F3 n2
  go_wp2_with (at_builtin; refine wpList_appH rfl (.tmp 12) (.tmp 14) 35 rfl 56 Try.underlying35 HIV.out (by decide) (by decide) rfl HO3.out HBW3.out (vrsD n.locs) rfl HD3.out (vrsD_len _) (vrsD_plain _) (vrsD_ones _) HN3.out ?_)
  intro v4 W4 hO4 hg4 _
  have HB4 := Lib.hid (below_mid HF3.out.below HO3.out (Nat.le_refl _) hg4)
  obtain ⟨x4, c4, rfl, _, _⟩ := hO4.slice
  have hv : n.ins.length + n.outs.length + n.locs.length = (vars6 n).length := by unfold vars6; rw [List.length_append, List.length_append]
  rw [← vrsD_app, ← vrsD_app] at hO4
  have HO4 := Lib.hid hO4
  have HV := Lib.hid hv
  clear hO4 hg4 n3 hv
  go_wp2_with fail
  go_ret
  have hE := (HO4.out.ends (by have := HLN.out; omega)).mono (ok' := (w.heap.size ≤ ·)) (fun k hk _ => by omega)
  rw [HV.out, show n.ins ++ (n.outs ++ n.locs) = vars6 n by unfold vars6; rw [List.append_assoc]] at hE
  exact ⟨x4, c4, by rw [← HV.out]; rfl, hE, HB4.out⟩
end Go.Proofs.Ytejljfoacbpliaa

namespace Go.Proofs.Ytejljfoacbpliaa
open Go Go.RowKit
def no6 : Option Nat → Int
  | some i => (i : Int)
  | none => -1
theorem eq_txt {a b : ByteArray} (h : a.data.toList = b.data.toList) : (a.toList == b.toList) = true := by rw [Lib.toList_data, Lib.toList_data, h]; simp
theorem ne_txt {a b : ByteArray} (h : ¬ a.data.toList = b.data.toList) : (a.toList == b.toList) = false := by rw [Lib.toList_data, Lib.toList_data]; simpa using h
set_option maxHeartbeats 4000000 in
set_option maxRecDepth 100000 in
theorem NodeOf_any (l : List Nd) (s : ByteArray) (w : World) (ok : Nat → Prop) (x : Option Addr) (c : Nat) (hk : IsD ok w (.slice x l.length c) (.sl l.length (ndsD l))) : Calls Try.prog 81 #[.slice x l.length c, .string s] w (fun e w' => e = .returned (.int .i64 (no6 (nodeOf6 s.data.toList l 0))) ∧ w' = w) := by
  have HK := Lib.hid hk
  have HFEW := Lib.hid (IsD.few hk)
  obtain ⟨R, hR⟩ : ∃ R, R = nodeOf6 s.data.toList l 0 := ⟨_, rfl⟩
  rw [← hR]
  have HR := Lib.hid hR
  clear hk hR
  go_enter Try.func81, Try.ntmps81
  go_wp2_with fail
  go_loopw [5] (fun v5 wr => ∃ (i : Nat), v5 = .int .i64 (i : Int) ∧ i ≤ l.length ∧ wr = w ∧ R = nodeOf6 s.data.toList (l.drop i) i)
    (fun v5 _ => l.length - (intOf v5).toNat)
  case atStart => exact ⟨0, rfl, Nat.zero_le _, rfl, HR.out⟩
  case round =>
    clear HR
    obtain ⟨i, rfl, hi, hw, hq⟩ := hrel
    subst hw
    have HI := Lib.hid hi
    clear hi
    by_cases hil : i < l.length
    · have d1 : decide ((i : Int) < (l.length : Int)) = true := by simp; omega
      have HIL := Lib.hid hil
      rw [List.drop_eq_getElem_cons hil] at hq
      obtain ⟨g, rfl, _, xi, ci, xo, co, xl, cl, xe, ce, hrg, t1, t2, t3, t4⟩ := nd_at HK.out i hil
      obtain ⟨n, hn⟩ : ∃ n, n = l[i]'HIL.out := ⟨_, rfl⟩
      rw [← hn] at hrg hq
      have c0 : wr.cell? ⟨g, i * 6, none⟩ = some (.string n.name) := hrg 0 _ rfl
      have i0 : (0 : Int) ≤ (i : Int) := by omega
      have i1 : (i : Int) < (l.length : Int) := by omega
      unfold nodeOf6 at hq
      by_cases hs : n.name.data.toList = s.data.toList
      · rw [if_pos hs] at hq
        have e1 := eq_txt hs
        have HQ := Lib.hid hq
        clear hil hrg hs hq t1 t2 t3 t4 hn
        go_wp2_with fail
        go_ret
        exact ⟨by rw [HQ.out]; rfl, rfl⟩
      · rw [if_neg hs] at hq
        have e1 := ne_txt hs
        have HQ := Lib.hid hq
        clear hil hrg hs hq t1 t2 t3 t4 hn
        go_wp2_with fail
        refine ⟨⟨i + 1, wrap_succ (by have := HIL.out; have := HFEW.out; omega), HIL.out, by trivial, HQ.out⟩, ?_⟩
        rw [wrap_succ (by have := HIL.out; have := HFEW.out; omega)]
        have := HIL.out
        simp [intOf]; omega
    · have d1 : decide ((i : Int) < (l.length : Int)) = false := by simp; omega
      obtain rfl : i = l.length := by have := HI.out; omega
      rw [List.drop_length] at hq
      have HQ := Lib.hid (show R = none from hq)
      clear hil hq
      go_wp2_with fail
      go_ret
      exact ⟨by rw [HQ.out]; rfl, rfl⟩
theorem hasV6_cons (s : List UInt8) (v : Vr) (r : List Vr) : hasV6 s (v :: r) = (decide (v.name.data.toList = s) || hasV6 s r) := by unfold hasV6; rw [List.any_cons]
set_option maxHeartbeats 4000000 in
set_option maxRecDepth 100000 in
theorem input_any (n : Nd) (s : ByteArray) (w : World) (ok : Nat → Prop) (xi xo xl xe : Option Addr) (ci co cl ce : Nat) (hkn : NdIn ok w n xi xo xl xe ci co cl ce) : Calls Try.prog 82 #[ndV n xi xo xl xe ci co cl ce, .string s] w (fun e w' => e = .returned (.bool (hasV6 s.data.toList n.ins)) ∧ Below w.heap.size w w') := by
  have F0 := (Fx.start w).alloc w.heap.size rfl 38 #[.string n.name, .slice xi n.ins.length ci, .slice xo n.outs.length co, .slice xl n.locs.length cl, .slice xe n.eqs.length ce, .int .i64 (n.at_ : Int)]
  have n1 := cell_of_row _ w.heap.size 1 _ _ _ (F0.get 0 rfl)
  have HD := Lib.hid (IsD.below F0.below hkn.1)
  have HFEW := Lib.hid (IsD.few hkn.1)
  have HB := Lib.hid F0.below
  obtain ⟨R, hR⟩ : ∃ R, R = hasV6 s.data.toList n.ins := ⟨_, rfl⟩
  rw [← hR]
  have HR := Lib.hid hR
  obtain ⟨W0, hW0⟩ : ∃ W0, W0 = w.alloc (.cells #[.string n.name, .slice xi n.ins.length ci, .slice xo n.outs.length co, .slice xl n.locs.length cl, .slice xe n.eqs.length ce, .int .i64 (n.at_ : Int)] 38) := ⟨_, rfl⟩
  rw [← hW0] at HD HB n1
  have HW0 := Lib.hid hW0
  clear hkn hR F0 hW0
  unfold ndV
  go_enter Try.func82, Try.ntmps82
  go_upto_region 1 with fail
  rw [← HW0.out]
  go_wp2_with fail
  go_loopw [5] (fun v5 wr => ∃ (i : Nat), v5 = .int .i64 (i : Int) ∧ i ≤ n.ins.length ∧ wr = W0 ∧ R = hasV6 s.data.toList (n.ins.drop i))
    (fun v5 _ => n.ins.length - (intOf v5).toNat)
  case atStart => exact ⟨0, rfl, Nat.zero_le _, rfl, HR.out⟩
  case round =>
    clear HR
    obtain ⟨i, rfl, hi, hw, hq⟩ := hrel
    subst hw
    have HI := Lib.hid hi
    clear hi
    by_cases hil : i < n.ins.length
    · have d1 : decide ((i : Int) < (n.ins.length : Int)) = true := by simp; omega
      have HIL := Lib.hid hil
      rw [List.drop_eq_getElem_cons hil, hasV6_cons] at hq
      obtain ⟨g, rfl, _, hrg⟩ := var_at HD.out i hil
      obtain ⟨v, hv⟩ : ∃ v, v = n.ins[i]'HIL.out := ⟨_, rfl⟩
      rw [← hv] at hrg hq
      have c0 : wr.cell? ⟨g, i * 5, none⟩ = some (.string v.name) := hrg 0 _ rfl
      have i0 : (0 : Int) ≤ (i : Int) := by omega
      have i1 : (i : Int) < (n.ins.length : Int) := by omega
      by_cases hs : v.name.data.toList = s.data.toList
      · have e1 := eq_txt hs
        have HQ := Lib.hid (show R = true by rw [hq, decide_eq_true hs]; rfl)
        clear hil hv hrg hs hq
        go_wp2_with fail
        go_ret
        exact ⟨by rw [HQ.out]; rfl, HB.out⟩
      · have e1 := ne_txt hs
        have HQ := Lib.hid (show R = hasV6 s.data.toList (n.ins.drop (i + 1)) by rw [hq, decide_eq_false hs]; rfl)
        clear hil hv hrg hs hq
        go_wp2_with fail
        refine ⟨⟨i + 1, wrap_succ (by have := HIL.out; have := HFEW.out; omega), HIL.out, by trivial, HQ.out⟩, ?_⟩
        rw [wrap_succ (by have := HIL.out; have := HFEW.out; omega)]
        have := HIL.out
        simp [intOf]; omega
    · have d1 : decide ((i : Int) < (n.ins.length : Int)) = false := by simp; omega
      obtain rfl : i = n.ins.length := by have := HI.out; omega
      rw [List.drop_length] at hq
      have HQ := Lib.hid (show R = false from hq)
      clear hil hq
      go_wp2_with fail
      go_ret
      exact ⟨by rw [HQ.out]; rfl, HB.out⟩
def vrA (v : Vr) : Array Value := #[.string v.name, .int .i64 (v.kind : Int), .string v.on, .bool v.not_, .int .i64 (v.at_ : Int)]
def GivesFv (o : Option Vr) (w : World) (e : Ending) (w' : World) : Prop := e = .returned (.tuple #[.agg (vrA (o.getD vrZ)), .bool o.isSome]) ∧ Below w.heap.size w w'
theorem v6_one (a o : ByteArray) (k t : Int) (b : Bool) : (#[.string a, .int .i64 k, .string o, .bool b, .int .i64 t] : Array Value).all (·.oneCell') = true := by simp [Value.oneCell']
theorem build_v60 (W : World) : (Instr.build 62 #[]).run Try.prog W = .ok (.agg #[.string ⟨#[]⟩, .int .i64 0, .string ⟨#[]⟩, .bool false, .int .i64 0]) W := by kernel_rfl
set_option maxHeartbeats 4000000 in
set_option maxRecDepth 100000 in
theorem Find_any (n : Nd) (hl : (vars6 n).length ≤ 1000000) (s : ByteArray) (w : World) (ok : Nat → Prop) (xi xo xl xe : Option Addr) (ci co cl ce : Nat) (hkn : NdIn ok w n xi xo xl xe ci co cl ce) : Calls Try.prog 49 #[ndV n xi xo xl xe ci co cl ce, .string s] w (GivesFv (find6 s.data.toList (vars6 n)) w) := by
  have HSN := Lib.hid size_n4
  have HSV := Lib.hid size_v4
  have F0 := ((Fx.start w).alloc w.heap.size rfl 38 #[.string n.name, .slice xi n.ins.length ci, .slice xo n.outs.length co, .slice xl n.locs.length cl, .slice xe n.eqs.length ce, .int .i64 (n.at_ : Int)]).alloc (w.heap.size + 1) (by simp) 62 #[.string ⟨#[]⟩, .int .i64 0, .string ⟨#[]⟩, .bool false, .int .i64 0]
  have HL0 := Lib.hid (F0.get 0 rfl)
  have kv := Vars_any n hl _ ok xi xo xl xe ci co cl ce (NdIn.below F0.below hkn)
  unfold GivesVr ndV at kv
  have HF0 := Lib.hid F0
  have HLEN := Lib.hid hl
  obtain ⟨V, hV⟩ : ∃ V, V = vars6 n := ⟨_, rfl⟩
  rw [← hV] at kv HLEN ⊢
  obtain ⟨R, hR⟩ : ∃ R, R = find6 s.data.toList V := ⟨_, rfl⟩
  rw [← hR]
  have HR := Lib.hid hR
  clear hkn hR F0 hl hV
  unfold ndV
  go_enter Try.func49, Try.ntmps49
  go_wp2_with (refine wpList_load_row rfl 38 (.tmp 2) rfl w.heap.size rfl 38 #[.string n.name, .slice xi n.ins.length ci, .slice xo n.outs.length co, .slice xl n.locs.length cl, .slice xe n.eqs.length ce, .int .i64 (n.at_ : Int)] (0, 0) _ ?_ Try.underlying38 rfl HSN.out ?_; (exact HL0.out))
  (with_reducible refine kv.mono ?_)
  rintro e9 w1 ⟨x, c, rfl, hI, hb⟩
  have HF1 := Lib.hid (HF0.out.call hb)
  have HI1 := Lib.hid hI
  have HFEW := Lib.hid (IsD.few hI)
  clear hb hI kv
  go_wp2_with fail
  go_loopw [7] (fun v7 wr => ∃ (i : Nat), v7 = .int .i64 (i : Int) ∧ i ≤ V.length ∧ wr = w1 ∧ R = find6 s.data.toList (V.drop i))
    (fun v7 _ => V.length - (intOf v7).toNat)
  case atStart => exact ⟨0, rfl, Nat.zero_le _, rfl, HR.out⟩
  case round =>
    clear HR
    obtain ⟨i, rfl, hi, hw, hq⟩ := hrel
    subst hw
    have HI := Lib.hid hi
    clear hi
    by_cases hil : i < V.length
    · have d1 : decide ((i : Int) < (V.length : Int)) = true := by simp; omega
      have HIL := Lib.hid hil
      rw [List.drop_eq_getElem_cons hil] at hq
      obtain ⟨g, rfl, _, hrg⟩ := var_at HI1.out i hil
      obtain ⟨v, hv⟩ : ∃ v, v = V[i]'HIL.out := ⟨_, rfl⟩
      rw [← hv] at hrg hq
      have c0 : wr.cell? ⟨g, i * 5, none⟩ = some (.string v.name) := hrg 0 _ rfl
      have i0 : (0 : Int) ≤ (i : Int) := by omega
      have i1 : (i : Int) < (V.length : Int) := by omega
      unfold find6 at hq
      by_cases hs : v.name.data.toList = s.data.toList
      · rw [if_pos hs] at hq
        have e1 := eq_txt hs
        have HQ := Lib.hid hq
        have HRG := Lib.hid hrg
        have HL1 := Lib.hid (HF1.out.get 1 rfl)
        clear hil hv hrg hs hq
        go_wp2_with (first | (refine wpList_load_mid rfl 62 (.tmp 25) rfl g (i * 5) rfl (vrC v) _ ?_ Try.underlying62 rfl HSV.out ?_; (exact HRG.out)) | (refine wpList_store_row rfl 62 (.tmp 4) (.tmp 26) rfl (w.heap.size + 1) #[.string v.name, .int .i64 (v.kind : Int), .string v.on, .bool v.not_, .int .i64 (v.at_ : Int)] rfl rfl 62 #[.string ⟨#[]⟩, .int .i64 0, .string ⟨#[]⟩, .bool false, .int .i64 0] ?_ HSV.out rfl (v6_one _ _ _ _ _) ?_; (exact HL1.out)))
        refine bodyPost_ret (results_cell_tmp6 (q := 5) (p := 4) (ty := 62) rfl _ _ (w.heap.size + 1) 62 #[.string v.name, .int .i64 (v.kind : Int), .string v.on, .bool v.not_, .int .i64 (v.at_ : Int)] (0, 0) _ rfl (setRow_heap _ (w.heap.size + 1) _ _ _ _ HL1.out) Try.underlying62 rfl HSV.out) rfl ?_
        rw [HQ.out]
        exact ⟨rfl, below_setRow HF1.out.below (by omega) _⟩
      · rw [if_neg hs] at hq
        have e1 := ne_txt hs
        have HQ := Lib.hid hq
        clear hil hv hrg hs hq
        go_wp2_with fail
        refine ⟨⟨i + 1, wrap_succ (by have := HIL.out; have := HFEW.out; omega), HIL.out, by trivial, HQ.out⟩, ?_⟩
        rw [wrap_succ (by have := HIL.out; have := HFEW.out; omega)]
        have := HIL.out
        simp [intOf]; omega
    · have d1 : decide ((i : Int) < (V.length : Int)) = false := by simp; omega
      obtain rfl : i = V.length := by have := HI.out; omega
      rw [List.drop_length] at hq
      have HQ := Lib.hid (show R = none from hq)
      have HL1 := Lib.hid (HF1.out.get 1 rfl)
      have bz := build_v60
      clear hil hq
      go_wp2_with (refine wpList_store_row rfl 62 (.tmp 4) (.tmp 27) rfl (w.heap.size + 1) #[.string ⟨#[]⟩, .int .i64 0, .string ⟨#[]⟩, .bool false, .int .i64 0] rfl rfl 62 #[.string ⟨#[]⟩, .int .i64 0, .string ⟨#[]⟩, .bool false, .int .i64 0] ?_ HSV.out rfl (v6_one _ _ _ _ _) ?_; (exact HL1.out))
      refine bodyPost_ret (results_cell_tmp6 (q := 5) (p := 4) (ty := 62) rfl _ _ (w.heap.size + 1) 62 #[.string ⟨#[]⟩, .int .i64 0, .string ⟨#[]⟩, .bool false, .int .i64 0] (0, 0) _ rfl (setRow_heap _ (w.heap.size + 1) _ _ _ _ HL1.out) Try.underlying62 rfl HSV.out) rfl ?_
      rw [HQ.out]
      exact ⟨rfl, below_setRow HF1.out.below (by omega) _⟩
end Go.Proofs.Ytejljfoacbpliaa

namespace Go.Proofs.Ytejljfoacbpliaa
open Go Go.RowKit
structure Fg (w0 : World) (r : Nat) (bl : List (Nat × TypeId × Array Value)) (w : World) : Prop where
  grown : w0.grownBy w (some r)
  low : r < w0.heap.size
  blk : ∀ x ∈ bl, w.heap[x.1]? = some (.cells x.2.2 x.2.1 (0, 0)) ∧ w0.heap.size ≤ x.1
  srt : bl.Pairwise (fun x y => x.1 < y.1)
theorem Fg.of {w0 w : World} {r : Nat} {bl : List (Nat × TypeId × Array Value)} (h : Fx w0 bl w) (hr : r < w0.heap.size) : Fg w0 r bl w := ⟨gb_below h.below, hr, h.blk, h.srt⟩
theorem Fg.lt {w0 w : World} {r : Nat} {bl : List (Nat × TypeId × Array Value)} (h : Fg w0 r bl w) : ∀ x ∈ bl, x.1 < w.heap.size := fun x hx => (Array.getElem?_eq_some_iff.1 (h.blk x hx).1).1
theorem Fg.get {w0 w : World} {r : Nat} {bl : List (Nat × TypeId × Array Value)} (h : Fg w0 r bl w) (i : Nat) {b : Nat} {T : TypeId} {cs : Array Value} (hi : bl[i]? = some (b, T, cs)) : w.heap[b]? = some (.cells cs T (0, 0)) :=
  (h.blk _ (List.mem_of_getElem? hi)).1
theorem Fg.ge {w0 w : World} {r : Nat} {bl : List (Nat × TypeId × Array Value)} (h : Fg w0 r bl w) (i : Nat) {b : Nat} {T : TypeId} {cs : Array Value} (hi : bl[i]? = some (b, T, cs)) : w0.heap.size ≤ b :=
  (h.blk _ (List.mem_of_getElem? hi)).2
theorem Fg.lt_ {w0 w : World} {r : Nat} {bl : List (Nat × TypeId × Array Value)} (h : Fg w0 r bl w) (i : Nat) {b : Nat} {T : TypeId} {cs : Array Value} (hi : bl[i]? = some (b, T, cs)) : b < w.heap.size :=
  h.lt _ (List.mem_of_getElem? hi)
theorem Fg.call {w0 w w' : World} {r : Nat} {bl : List (Nat × TypeId × Array Value)} (h : Fg w0 r bl w) (hb : Below w.heap.size w w') : Fg w0 r bl w' :=
  ⟨gb_trans h.grown (gb_below hb), h.low, fun x hx => ⟨(hb.block x.1 (h.lt x hx)).trans (h.blk x hx).1, (h.blk x hx).2⟩, h.srt⟩
theorem Fg.own {w0 w w' : World} {r : Nat} {bl : List (Nat × TypeId × Array Value)} (h : Fg w0 r bl w) (hg : w.grownBy w' (some r)) : Fg w0 r bl w' :=
  ⟨gb_trans h.grown hg, h.low, fun x hx => ⟨(hg.block x.1 (h.lt x hx) (fun e => by injection e with e; have := (h.blk x hx).2; have := h.low; omega)).trans (h.blk x hx).1, (h.blk x hx).2⟩, h.srt⟩
theorem gb_rowN (w : World) (b : Nat) (zs : Array Value) : w.grownBy (w.setRow b zs) (some b) :=
  ⟨rfl, rfl, rfl, by rw [setRow_size]; exact Nat.le_refl _, fun k _ hk => setRow_other w b k _ (fun e => hk (by rw [e]))⟩
theorem Fg.alloc {w0 w : World} {r : Nat} {bl : List (Nat × TypeId × Array Value)} (h : Fg w0 r bl w) (b : Nat) (hb : b = w.heap.size) (T : TypeId) (cs : Array Value) : Fg w0 r (bl ++ [(b, T, cs)]) (w.alloc (.cells cs T)) := by
  subst hb
  have hbel : Below w.heap.size w (w.alloc (.cells cs T)) := (Below.refl _ _).alloc (Nat.le_refl _) _
  refine ⟨(h.call hbel).grown, h.low, fun x hx => ?blk, List.pairwise_append.2 ⟨h.srt, List.pairwise_singleton _ _, fun x hx y hy => ?srt⟩⟩
  case blk =>
    rcases List.mem_append.1 hx with hx | hx
    · exact (h.call hbel).blk x hx
    · simp only [List.mem_cons, List.not_mem_nil, or_false] at hx
      subst hx
      exact ⟨heap_alloc_new w _, h.grown.size⟩
  case srt =>
    simp only [List.mem_cons, List.not_mem_nil, or_false] at hy
    subst hy
    exact h.lt x hx
end Go.Proofs.Ytejljfoacbpliaa

namespace Go.Proofs.Ytejljfoacbpliaa
open Go Go.RowKit
def Ck6 (w : World) (gc : Nat) (b : Nat × Nat) : Prop := w.heap[gc]? = some (.cells #[.int .i64 (b.1 : Int), .int .i64 (b.2 : Int)] 93 (0, 0))
def fl6 (b : Nat × Nat) (e a : Nat) : Nat × Nat := if b.1 = 0 then (e, a) else b
def GivesCk (gc : Nat) (b : Nat × Nat) (w : World) (e : Ending) (w' : World) : Prop := e = .returned (.tuple #[]) ∧ Ck6 w' gc b ∧ w.grownBy w' (some gc)
theorem Ck6.lt {w : World} {gc : Nat} {b : Nat × Nat} (h : Ck6 w gc b) : gc < w.heap.size := (Array.getElem?_eq_some_iff.1 h).1
theorem Ck6.below {w w' : World} {gc : Nat} {b : Nat × Nat} (h : Ck6 w gc b) (hb : Below w.heap.size w w') : Ck6 w' gc b := (hb.block gc h.lt).trans h
theorem size_bad6 : (Try.prog.info? 30).map (·.size) = some 2 := by kernel_rfl
theorem bad6_one (a b : Int) : (#[.int .i64 a, .int .i64 b] : Array Value).all (·.oneCell') = true := by simp [Value.oneCell']
set_option maxHeartbeats 4000000 in
set_option maxRecDepth 100000 in
theorem fail6_any (w : World) (gc : Nat) (b : Nat × Nat) (hc : Ck6 w gc b) (e a : Nat) : Calls Try.prog 50 #[.pointer (some ⟨gc, 0, none⟩), .int .i64 (e : Int), .int .i64 (a : Int)] w (GivesCk gc (fl6 b e a) w) := by
  have HSB := Lib.hid size_bad6
  have HC := Lib.hid hc
  obtain ⟨b1, b2⟩ := b
  have c0 := cell_of_row w gc 0 _ _ _ hc
  by_cases h0 : b1 = 0
  · subst h0
    clear hc
    have bb : ∀ W : World, (Instr.build 30 #[(0, .int .i64 (e : Int)), (1, .int .i64 (a : Int))]).run Try.prog W = .ok (.agg #[.int .i64 (e : Int), .int .i64 (a : Int)]) W := fun W => by kernel_rfl
    go_enter Try.func50, Try.ntmps50
    go_wp2_with (refine wpList_store_row rfl 30 (.tmp 17) (.tmp 15) rfl gc #[.int .i64 (e : Int), .int .i64 (a : Int)] rfl rfl 93 #[.int .i64 ((0 : Nat) : Int), .int .i64 (b2 : Int)] ?_ HSB.out rfl (bad6_one _ _) ?_; (exact HC.out))
    refine bodyPost_end (results_none rfl _ _ _) rfl ?_
    exact ⟨rfl, setRow_heap _ gc _ _ _ _ HC.out, gb_rowN _ _ _⟩
  · have d0 : ((b1 : Int) == 0) = false := by simp; omega
    have HQ := Lib.hid (show fl6 (b1, b2) e a = (b1, b2) from if_neg h0)
    clear hc h0
    go_enter Try.func50, Try.ntmps50
    go_wp2_with fail
    refine bodyPost_end (results_none rfl _ _ _) rfl ?_
    exact ⟨rfl, by rw [HQ.out]; exact HC.out, gb_refl _ _⟩
end Go.Proofs.Ytejljfoacbpliaa

namespace Go.Proofs.Ytejljfoacbpliaa
open Go Go.RowKit
theorem wpStill_row6 {P : Program} {ops : Array Oper} {w : World} {Q : Act → Prop} {a : Act} {o : Oper} {rest : List Oper} (hgd : o.guard = none) (ty : TypeId) (x : Operand) (ho : o.op = .load ty x) (g : Nat) (hx : a.eval x = .pointer (some ⟨g, 0, none⟩)) (t : TypeId) (cs : Array Value) (fr : Nat × Nat) (d : TypeDesc) (hg : w.heap[g]? = some (.cells cs t fr))
    (hu : P.underlying ty = some d) (hd : (match d with | .struct _ | .array _ _ => true | _ => false) = true) (hi : (P.info? ty).map (·.size) = some cs.size)
    (h : wpStill P ops w Q rest (a.put o.dst (.agg cs))) : wpStill P ops w Q (o :: rest) a := by
  refine wpStill_step fun K hK => ?_
  have hw : Region.wanted o (yielded ops a.tmps) = true := by simp [Region.wanted, hgd]
  rw [if_pos hw]
  unfold Oper.still execOp
  simp only [ho, hx, Instr.loadAt, Instr.sureAddr, Sem.run_bind, Sem.run_pure, Result.andThen_ok, run_loadVar_row w g t ty cs fr d hg hu hd hi]
  exact ⟨rfl, hK _ h⟩
theorem wpStill_mid6 {P : Program} {ops : Array Oper} {w : World} {Q : Act → Prop} {a : Act} {o : Oper} {rest : List Oper} (hgd : o.guard = none) (ty : TypeId) (x : Operand) (ho : o.op = .load ty x) (g off : Nat) (hx : a.eval x = .pointer (some ⟨g, off, none⟩)) (vs : List Value) (d : TypeDesc) (hr : w.rangeAt g off vs)
    (hu : P.underlying ty = some d) (hd : d.isRow = true) (hi : (P.info? ty).map (·.size) = some vs.length)
    (h : wpStill P ops w Q rest (a.put o.dst (.agg vs.toArray))) : wpStill P ops w Q (o :: rest) a := by
  refine wpStill_step fun K hK => ?_
  have hw : Region.wanted o (yielded ops a.tmps) = true := by simp [Region.wanted, hgd]
  rw [if_pos hw]
  unfold Oper.still execOp
  simp only [ho, hx, Instr.loadAt, Instr.sureAddr, Sem.run_bind, Sem.run_pure, Result.andThen_ok, run_loadVar_mid w g off ty vs d hr hu hd hi]
  exact ⟨rfl, hK _ h⟩
def ndZ6 : Nd := ⟨⟨#[]⟩, [], [], [], [], 0⟩
def own6 (ah : List Nd) (n : Nd) (op nm : ByteArray) (kl at_ : Nat) (b : Nat × Nat) : Nat × Nat :=
  if op.data.toList = [118, 97, 114] ∨ op.data.toList = [119, 104, 101, 110] ∨ op.data.toList = [109, 101, 114, 103, 101] then (if (find6 nm.data.toList (vars6 n)).isSome = true then b else fl6 b 8 at_) else
  if op.data.toList = [99, 97, 108, 108] then (match nodeOf6 nm.data.toList ah 0 with
    | none => fl6 b 8 at_
    | some k => if (ah.getD k ndZ6).outs.length = 1 ∧ (ah.getD k ndZ6).ins.length = kl then b else fl6 b 8 at_) else b
mutual
def names6 (ah : List Nd) (n : Nd) : Ex → Nat × Nat → Nat × Nat
  | .mk op nm _ at_ kids, b => namesL6 ah n kids (own6 ah n op nm kids.length at_ b)
def namesL6 (ah : List Nd) (n : Nd) : List Ex → Nat × Nat → Nat × Nat
  | [], b => b
  | e :: r, b => namesL6 ah n r (names6 ah n e b)
end
theorem names6_eq (ah : List Nd) (n : Nd) (e : Ex) (b : Nat × Nat) : names6 ah n e b = namesL6 ah n e.kids (own6 ah n e.op e.name e.kids.length e.at_ b) := by
  cases e
  conv => lhs; unfold names6
  rfl
theorem namesL6_cons (ah : List Nd) (n : Nd) (e : Ex) (r : List Ex) (b : Nat × Nat) : namesL6 ah n (e :: r) b = namesL6 ah n r (names6 ah n e b) := by
  conv => lhs; unfold namesL6
theorem nodeOf6_lt (s : List UInt8) : ∀ (l : List Nd) (i k : Nat), nodeOf6 s l i = some k → i ≤ k ∧ k < i + l.length
  | [], i, k, h => by simp [nodeOf6] at h
  | n :: r, i, k, h => by
    unfold nodeOf6 at h
    by_cases hs : n.name.data.toList = s
    · rw [if_pos hs] at h
      injection h with h
      subst h
      simp
    · rw [if_neg hs] at h
      have := nodeOf6_lt s r (i + 1) k h
      simp only [List.length_cons]
      omega
theorem NdIn.grown6 {ok : Nat → Prop} {w w' : World} {n : Nd} {xi xo xl xe : Option Addr} {ci co cl ce : Nat} {row : Option Nat} (hg : w.grownBy w' row) (hr : ∀ k, row = some k → ¬ ok k) (h : NdIn ok w n xi xo xl xe ci co cl ce) : NdIn ok w' n xi xo xl xe ci co cl ce :=
  ⟨IsD.grown hg hr h.1, IsD.grown hg hr h.2.1, IsD.grown hg hr h.2.2.1, IsD.grown hg hr h.2.2.2⟩
theorem eq6 {o : ByteArray} {l : List UInt8} (h : o.data.toList = l) : (o.toList == l) = true := by rw [Lib.toList_data, h]; simp
theorem ne6 {o : ByteArray} {l : List UInt8} (h : ¬ o.data.toList = l) : (o.toList == l) = false := by rw [Lib.toList_data]; simpa using h
set_option maxHeartbeats 4000000 in
set_option maxRecDepth 100000 in
theorem names_lt (ah : List Nd) (n : Nd) (hl : (vars6 n).length ≤ 1000000) (xa : Option Addr) (ca : Nat) (xi xo xl xe : Option Addr) (ci co cl ce : Nat) (okA okN okK : Nat → Prop) (d : Nat) : ∀ (e : Ex), SizeOf.sizeOf e < d → okE e = true → ∀ (w : World) (gc : Nat) (b : Nat × Nat), ¬ okA gc → ¬ okN gc → ¬ okK gc → Ck6 w gc b → ∀ (x : Option Addr) (c : Nat), KidsD okK w e x c → IsD okA w (.slice xa ah.length ca) (.sl ah.length (ndsD ah)) → NdIn okN w n xi xo xl xe ci co cl ce →
    Calls Try.prog 53 #[.pointer (some ⟨gc, 0, none⟩), .slice xa ah.length ca, ndV n xi xo xl xe ci co cl ce, exV e x c] w (GivesCk gc (names6 ah n e b) w) := by
  induction d with
  | zero => intro e h; omega
  | succ d ih =>
    intro e hd hoe w gc b hgA hgN hgK hc x c hkk hA hN
    have hoe' := hoe
    rw [okE_eq] at hoe'
    simp only [Bool.and_eq_true] at hoe'
    have hkids := hoe'.2.2
    have HNM := Lib.hid (okNm_le hoe'.2.1)
    have IH := Lib.hid (fun (i : Nat) (hi : i < e.kids.length) (W : World) (b' : Nat × Nat) (hC : Ck6 W gc b') (x : Option Addr) (c : Nat) (hK : KidsD okK W e.kids[i] x c) (hA' : IsD okA W (.slice xa ah.length ca) (.sl ah.length (ndsD ah))) (hN' : NdIn okN W n xi xo xl xe ci co cl ce) => ih e.kids[i] (by have := kid_less hi; omega) (okEs_at _ i hi hkids) W gc b' hgA hgN hgK hC x c hK hA' hN')
    have HKK := Lib.hid hkk
    have HKA := Lib.hid hA
    have HKN := Lib.hid hN
    have HGA := Lib.hid hgA
    have HGN := Lib.hid hgN
    have HGK := Lib.hid hgK
    have HSN := Lib.hid size_n4
    have HSE := Lib.hid size_e4
    have HSV := Lib.hid size_v4
    have HFEW := Lib.hid (IsD.few hkk)
    have HLV := Lib.hid hl
    have F0 := ((Fx.start w).alloc w.heap.size rfl 38 #[.string n.name, .slice xi n.ins.length ci, .slice xo n.outs.length co, .slice xl n.locs.length cl, .slice xe n.eqs.length ce, .int .i64 (n.at_ : Int)]).alloc (w.heap.size + 1) (by simp) 53 #[.string e.op, .string e.name, .int .i64 e.n, .int .i64 (e.at_ : Int), .slice x e.kids.length c]
    obtain ⟨R, hR⟩ : ∃ R, R = names6 ah n e b := ⟨_, rfl⟩
    rw [← hR]
    rw [names6_eq] at hR
    obtain ⟨W0, hW0⟩ : ∃ W0, W0 = ((w.alloc (.cells #[.string n.name, .slice xi n.ins.length ci, .slice xo n.outs.length co, .slice xl n.locs.length cl, .slice xe n.eqs.length ce, .int .i64 (n.at_ : Int)] 38)).alloc (.cells #[.string e.op, .string e.name, .int .i64 e.n, .int .i64 (e.at_ : Int), .slice x e.kids.length c] 53)) := ⟨_, rfl⟩
    rw [← hW0] at F0
    have HG : Hid (Fg w gc [(w.heap.size, 38, #[.string n.name, .slice xi n.ins.length ci, .slice xo n.outs.length co, .slice xl n.locs.length cl, .slice xe n.eqs.length ce, .int .i64 (n.at_ : Int)]), (w.heap.size + 1, 53, #[.string e.op, .string e.name, .int .i64 e.n, .int .i64 (e.at_ : Int), .slice x e.kids.length c])] W0) := Lib.hid (Fg.of F0 hc.lt)
    have HC := Lib.hid (hc.below F0.below)
    have HB0 := Lib.hid F0.below
    have HW0 := Lib.hid hW0
    have e0 := cell_of_row W0 (w.heap.size + 1) 0 _ _ _ (F0.get 1 rfl)
    have e1 := cell_of_row W0 (w.heap.size + 1) 1 _ _ _ (F0.get 1 rfl)
    rw [hW0] at e0 e1
    have HR := Lib.hid hR
    clear ih hd hoe hoe' hkids hkk hA hN hgA hgN hgK hc F0 hW0 hl hR
    unfold ndV exV
    go_enter Try.func53, Try.ntmps53
    go_upto_region 1 with fail
    rw [← HW0.out] at e0 e1 ⊢
    go_upto_block 0 with fail
    clear e0
    go_cut [] (fun wx => ∃ B1 : Nat × Nat, Fg w gc [(w.heap.size, 38, #[.string n.name, .slice xi n.ins.length ci, .slice xo n.outs.length co, .slice xl n.locs.length cl, .slice xe n.eqs.length ce, .int .i64 (n.at_ : Int)]), (w.heap.size + 1, 53, #[.string e.op, .string e.name, .int .i64 e.n, .int .i64 (e.at_ : Int), .slice x e.kids.length c])] wx ∧ Ck6 wx gc B1 ∧ R = namesL6 ah n e.kids B1)
    case first =>
      by_cases hvv : e.op.data.toList = [118, 97, 114] ∨ e.op.data.toList = [119, 104, 101, 110] ∨ e.op.data.toList = [109, 101, 114, 103, 101]
      · have HQ := Lib.hid (show R = namesL6 ah n e.kids (if (find6 e.name.data.toList (vars6 n)).isSome = true then b else fl6 b 8 e.at_) by rw [HR.out]; unfold own6; rw [if_pos hvv])
        have kf := Find_any n HLV.out e.name W0 okN xi xo xl xe ci co cl ce (NdIn.below HB0.out HKN.out)
        have HN := Lib.hid (HG.out.get 0 rfl)
        unfold ndV GivesFv at kf
        obtain ⟨fo, hfo⟩ : ∃ fo, fo = find6 e.name.data.toList (vars6 n) := ⟨_, rfl⟩
        rw [← hfo] at kf HQ
        obtain ⟨v, hv⟩ : ∃ v, v = fo.getD vrZ := ⟨_, rfl⟩
        rw [← hv] at kf
        unfold vrA at kf
        obtain ⟨fs, hfs⟩ : ∃ fs, fs = fo.isSome := ⟨_, rfl⟩
        rw [← hfs] at kf HQ
        have HVV := Lib.hid hvv
        clear hfo hv hfs hvv HR
        have done : ∀ (b1 b2 b3 : Bool), (e.op.toList == [118, 97, 114]) = b1 → (e.op.toList == [119, 104, 101, 110]) = b2 → (e.op.toList == [109, 101, 114, 103, 101]) = b3 → (b1 || (b2 || b3)) = true → True := fun _ _ _ _ _ _ _ => trivial
        clear done
        have q : (e.op.toList == [118, 97, 114]) = true ∨ ((e.op.toList == [118, 97, 114]) = false ∧ (e.op.toList == [119, 104, 101, 110]) = true) ∨ ((e.op.toList == [118, 97, 114]) = false ∧ (e.op.toList == [119, 104, 101, 110]) = false ∧ (e.op.toList == [109, 101, 114, 103, 101]) = true) := by
          by_cases h1 : e.op.data.toList = [118, 97, 114]
          · exact .inl (eq6 h1)
          · by_cases h2 : e.op.data.toList = [119, 104, 101, 110]
            · exact .inr (.inl ⟨ne6 h1, eq6 h2⟩)
            · exact .inr (.inr ⟨ne6 h1, ne6 h2, eq6 ((HVV.out.resolve_left h1).resolve_left h2)⟩)
        rcases q with q0 | ⟨q0, q1⟩ | ⟨q0, q1, q2⟩
        all_goals
          go_wp2_with (refine wpList_load_row rfl 38 (.tmp 6) rfl w.heap.size rfl 38 #[.string n.name, .slice xi n.ins.length ci, .slice xo n.outs.length co, .slice xl n.locs.length cl, .slice xe n.eqs.length ce, .int .i64 (n.at_ : Int)] (0, 0) _ ?_ Try.underlying38 rfl HSN.out ?_; (exact HN.out))
          (with_reducible refine kf.mono ?_)
          rintro e9 w1 ⟨rfl, hb⟩
          obtain ⟨hnb, hnr⟩ := new_row w1 62 #[.string ⟨#[]⟩, .int .i64 0, .string ⟨#[]⟩, .bool false, .int .i64 0] #[.string v.name, .int .i64 (v.kind : Int), .string v.on, .bool v.not_, .int .i64 (v.at_ : Int)]
          have HAL := Lib.hid (heap_alloc_new w1 (.cells #[.string ⟨#[]⟩, .int .i64 0, .string ⟨#[]⟩, .bool false, .int .i64 0] 62))
          have HG := Lib.hid ((HG.out.call hb).call hnb)
          have HC := Lib.hid ((HC.out.below hb).below hnb)
          obtain ⟨WX, hWX⟩ : ∃ WX, WX = ((w1.alloc (.cells #[.string ⟨#[]⟩, .int .i64 0, .string ⟨#[]⟩, .bool false, .int .i64 0] 62)).setRow w1.heap.size #[.string v.name, .int .i64 (v.kind : Int), .string v.on, .bool v.not_, .int .i64 (v.at_ : Int)]) := ⟨_, rfl⟩
          rw [← hWX] at HG HC
          clear kf hb hnb hnr e1
          go_upto_region 6 with (refine wpList_store_row rfl 62 (.tmp 8) (.tmp 23) rfl w1.heap.size #[.string v.name, .int .i64 (v.kind : Int), .string v.on, .bool v.not_, .int .i64 (v.at_ : Int)] rfl rfl 62 #[.string ⟨#[]⟩, .int .i64 0, .string ⟨#[]⟩, .bool false, .int .i64 0] ?_ HSV.out rfl (v6_one _ _ _ _ _) ?_; (exact HAL.out))
          rw [← hWX]
          clear hWX
          cases fs with
          | true =>
            have HRR := Lib.hid (show R = namesL6 ah n e.kids b from HQ.out)
            go_wp2_with fail
            go_meet
            exact ⟨_, HG.out, HC.out, HRR.out⟩
          | false =>
            have HRR := Lib.hid (show R = namesL6 ah n e.kids (fl6 b 8 e.at_) from HQ.out)
            have c3 := cell_of_row WX (w.heap.size + 1) 3 _ _ _ (HG.out.get 1 rfl)
            have k8 : Calls Try.prog 50 #[.pointer (some ⟨gc, 0, none⟩), .int .i64 8, .int .i64 (e.at_ : Int)] WX (GivesCk gc (fl6 b 8 e.at_) WX) := fail6_any WX gc b HC.out 8 e.at_
            unfold GivesCk at k8
            go_wp2_with fail
            (with_reducible refine k8.mono ?_)
            rintro e9 w3 ⟨rfl, hC2, hg2⟩
            have HG := Lib.hid (HG.out.own hg2)
            have HC := Lib.hid hC2
            clear k8 hC2 hg2 c3
            go_wp2_with fail
            go_meet
            exact ⟨_, HG.out, HC.out, HRR.out⟩
      · have q0 := ne6 (fun h => hvv (.inl h))
        have q1 := ne6 (fun h => hvv (.inr (.inl h)))
        have q2 := ne6 (fun h => hvv (.inr (.inr h)))
        by_cases hcl : e.op.data.toList = [99, 97, 108, 108]
        · skip
          skip
          skip
          skip
          have q3 := eq6 hcl
          have HQ := Lib.hid (show R = namesL6 ah n e.kids (match nodeOf6 e.name.data.toList ah 0 with | none => fl6 b 8 e.at_ | some k => if (ah.getD k ndZ6).outs.length = 1 ∧ (ah.getD k ndZ6).ins.length = e.kids.length then b else fl6 b 8 e.at_) by rw [HR.out]; unfold own6; rw [if_neg hvv, if_pos hcl])
          have kn := NodeOf_any ah e.name W0 okA xa ca (IsD.below HB0.out HKA.out)
          obtain ⟨o, ho⟩ : ∃ o, o = nodeOf6 e.name.data.toList ah 0 := ⟨_, rfl⟩
          rw [← ho] at kn HQ
          have HO := Lib.hid ho
          clear hvv hcl ho
          cases o with
          | none =>
            have kn : Calls Try.prog 81 #[.slice xa ah.length ca, .string e.name] W0 (fun e w' => e = .returned (.int .i64 (-1)) ∧ w' = W0) := kn
            have HRR := Lib.hid (show R = namesL6 ah n e.kids (fl6 b 8 e.at_) from HQ.out)
            clear HQ
            go_wp2_with fail
            (with_reducible refine kn.mono ?_)
            rintro e9 w9 ⟨rfl, rfl⟩
            clear kn
            go_upto_region 10 with fail
            go_quiet (fail)
            have HG := Lib.hid (HG.out.call (below_drewN (Below.refl _ _) nq))
            have HC := Lib.hid (HC.out.below (below_drewN (Below.refl _ _) nq))
            obtain ⟨WX, hWX⟩ : ∃ WX, WX = w9.drewN nq := ⟨_, rfl⟩
            rw [← hWX] at HG HC ⊢
            clear hWX e1
            have c3 := cell_of_row WX (w.heap.size + 1) 3 _ _ _ (HG.out.get 1 rfl)
            have k8 : Calls Try.prog 50 #[.pointer (some ⟨gc, 0, none⟩), .int .i64 8, .int .i64 (e.at_ : Int)] WX (GivesCk gc (fl6 b 8 e.at_) WX) := fail6_any WX gc b HC.out 8 e.at_
            unfold GivesCk at k8
            go_wp2_with fail
            (with_reducible refine k8.mono ?_)
            rintro e9 w3 ⟨rfl, hC2, hg2⟩
            have HG := Lib.hid (HG.out.own hg2)
            have HC := Lib.hid hC2
            clear k8 hC2 hg2 c3
            go_wp2_with fail
            go_meet
            exact ⟨_, HG.out, HC.out, HRR.out⟩
          | some k =>
            have hk := nodeOf6_lt _ _ _ _ HO.out.symm
            have hk : k < ah.length := by omega
            have kn : Calls Try.prog 81 #[.slice xa ah.length ca, .string e.name] W0 (fun e w' => e = .returned (.int .i64 (k : Int)) ∧ w' = W0) := kn
            obtain ⟨g, rfl, hg, yi, di, yo, do_, yl, dl, ye, de, hrg, t1, t2, t3, t4⟩ := nd_at (IsD.below HB0.out HKA.out) k hk
            obtain ⟨a, ha⟩ : ∃ a, a = ah[k] := ⟨_, rfl⟩
            rw [← ha] at hrg
            have hga : ah.getD k ndZ6 = a := by rw [List.getD_eq_getElem?_getD, List.getElem?_eq_getElem hk, ha]; rfl
            have HQ := Lib.hid (show R = namesL6 ah n e.kids (if a.outs.length = 1 ∧ a.ins.length = e.kids.length then b else fl6 b 8 e.at_) by rw [HQ.out]; simp only; rw [hga])
            have m1 : W0.cell? ⟨g, k * 6 + 1, none⟩ = some (.slice yi a.ins.length di) := hrg 1 _ rfl
            have m2 : W0.cell? ⟨g, k * 6 + 2, none⟩ = some (.slice yo a.outs.length do_) := hrg 2 _ rfl
            have e4 := cell_of_row W0 (w.heap.size + 1) 4 _ _ _ (HG.out.get 1 rfl)
            have k0 : (0 : Int) ≤ (k : Int) := by omega
            have k1 : (k : Int) < (ah.length : Int) := by omega
            have kz : decide ((k : Int) < 0) = false := by simp
            clear hg hrg t1 t2 t3 t4 ha hga hk
            by_cases h1 : a.outs.length = 1
            · have p1 : ((a.outs.length : Int) != 1) = false := by rw [h1]; rfl
              by_cases h2 : a.ins.length = e.kids.length
              · have p2 : ((a.ins.length : Int) != (e.kids.length : Int)) = false := by rw [h2]; simp
                have HRR := Lib.hid (show R = namesL6 ah n e.kids b by rw [HQ.out, if_pos ⟨h1, h2⟩])
                clear HQ h1 h2
                go_wp2_with fail
                (with_reducible refine kn.mono ?_)
                rintro e9 w9 ⟨rfl, rfl⟩
                clear kn
                go_upto_region 10 with fail
                go_quiet (fail)
                have HG := Lib.hid (HG.out.call (below_drewN (Below.refl _ _) nq))
                have HC := Lib.hid (HC.out.below (below_drewN (Below.refl _ _) nq))
                clear m1 m2 e4 e1
                go_wp2_with fail
                go_meet
                exact ⟨_, HG.out, HC.out, HRR.out⟩
              · have p2 : ((a.ins.length : Int) != (e.kids.length : Int)) = true := by simp; omega
                have HRR := Lib.hid (show R = namesL6 ah n e.kids (fl6 b 8 e.at_) by rw [HQ.out, if_neg (by rintro ⟨_, h⟩; exact h2 h)])
                clear HQ h1 h2
                go_wp2_with fail
                (with_reducible refine kn.mono ?_)
                rintro e9 w9 ⟨rfl, rfl⟩
                clear kn
                go_upto_region 10 with fail
                go_quiet (fail)
                clear m1 m2 e4
                have HG := Lib.hid (HG.out.call (below_drewN (Below.refl _ _) nq))
                have HC := Lib.hid (HC.out.below (below_drewN (Below.refl _ _) nq))
                obtain ⟨WX, hWX⟩ : ∃ WX, WX = w9.drewN nq := ⟨_, rfl⟩
                rw [← hWX] at HG HC ⊢
                clear hWX e1
                have c3 := cell_of_row WX (w.heap.size + 1) 3 _ _ _ (HG.out.get 1 rfl)
                have k8 : Calls Try.prog 50 #[.pointer (some ⟨gc, 0, none⟩), .int .i64 8, .int .i64 (e.at_ : Int)] WX (GivesCk gc (fl6 b 8 e.at_) WX) := fail6_any WX gc b HC.out 8 e.at_
                unfold GivesCk at k8
                go_wp2_with fail
                (with_reducible refine k8.mono ?_)
                rintro e9 w3 ⟨rfl, hC2, hg2⟩
                have HG := Lib.hid (HG.out.own hg2)
                have HC := Lib.hid hC2
                clear k8 hC2 hg2 c3
                go_wp2_with fail
                go_meet
                exact ⟨_, HG.out, HC.out, HRR.out⟩
            · have p1 : ((a.outs.length : Int) != 1) = true := by simp; omega
              have HRR := Lib.hid (show R = namesL6 ah n e.kids (fl6 b 8 e.at_) by rw [HQ.out, if_neg (by rintro ⟨h, _⟩; exact h1 h)])
              clear HQ h1
              go_wp2_with fail
              (with_reducible refine kn.mono ?_)
              rintro e9 w9 ⟨rfl, rfl⟩
              clear kn
              go_upto_region 10 with fail
              go_quiet (fail)
              clear m1 m2 e4
              have HG := Lib.hid (HG.out.call (below_drewN (Below.refl _ _) nq))
              have HC := Lib.hid (HC.out.below (below_drewN (Below.refl _ _) nq))
              obtain ⟨WX, hWX⟩ : ∃ WX, WX = w9.drewN nq := ⟨_, rfl⟩
              rw [← hWX] at HG HC ⊢
              clear hWX e1
              have c3 := cell_of_row WX (w.heap.size + 1) 3 _ _ _ (HG.out.get 1 rfl)
              have k8 : Calls Try.prog 50 #[.pointer (some ⟨gc, 0, none⟩), .int .i64 8, .int .i64 (e.at_ : Int)] WX (GivesCk gc (fl6 b 8 e.at_) WX) := fail6_any WX gc b HC.out 8 e.at_
              unfold GivesCk at k8
              go_wp2_with fail
              (with_reducible refine k8.mono ?_)
              rintro e9 w3 ⟨rfl, hC2, hg2⟩
              have HG := Lib.hid (HG.out.own hg2)
              have HC := Lib.hid hC2
              clear k8 hC2 hg2 c3
              go_wp2_with fail
              go_meet
              exact ⟨_, HG.out, HC.out, HRR.out⟩
        · have q3 := ne6 hcl
          have HRR := Lib.hid (show R = namesL6 ah n e.kids b by rw [HR.out]; unfold own6; rw [if_neg hvv, if_neg hcl])
          go_wp2_with fail
          go_meet
          exact ⟨_, HG.out, HC.out, HRR.out⟩
    case rest =>
      rename World => wa
      obtain ⟨B1, hG, hC, hq⟩ := hcut
      have HG := Lib.hid hG
      have HC := Lib.hid hC
      have HRR := Lib.hid hq
      clear hG hC hq HR
      go_wp2_with fail
      go_loopw [11] (fun v11 wr => ∃ (i : Nat) (B : Nat × Nat), v11 = .int .i64 (i : Int) ∧ i ≤ e.kids.length ∧ Fg w gc [(w.heap.size, 38, #[.string n.name, .slice xi n.ins.length ci, .slice xo n.outs.length co, .slice xl n.locs.length cl, .slice xe n.eqs.length ce, .int .i64 (n.at_ : Int)]), (w.heap.size + 1, 53, #[.string e.op, .string e.name, .int .i64 e.n, .int .i64 (e.at_ : Int), .slice x e.kids.length c])] wr ∧ Ck6 wr gc B ∧ R = namesL6 ah n (e.kids.drop i) B)
        (fun v11 _ => e.kids.length - (intOf v11).toNat)
      case atStart => exact ⟨0, _, rfl, Nat.zero_le _, HG.out, HC.out, HRR.out⟩
      case round =>
        clear HG HC HRR
        obtain ⟨i, B, rfl, hi, hG, hC, hq⟩ := hrel
        have HG := Lib.hid hG
        have HC := Lib.hid hC
        have HI := Lib.hid hi
        have c4 := cell_of_row wr (w.heap.size + 1) 4 _ _ _ (hG.get 1 rfl)
        clear hG hC hi
        by_cases hil : i < e.kids.length
        · have d1 : decide ((i : Int) < (e.kids.length : Int)) = true := by simp; omega
          have HIL := Lib.hid hil
          rw [List.drop_eq_getElem_cons hil, namesL6_cons] at hq
          have hkw := IsD.grown HG.out.grown (fun k hk => by injection hk with hk; subst hk; exact HGK.out) HKK.out
          obtain ⟨g1, rfl, hg1, xk, ck, hrg, hkk⟩ := KidsD.at_ hkw i hil
          have ih := IH.out i hil
          obtain ⟨ek, hek⟩ : ∃ ek, ek = e.kids[i]'HIL.out := ⟨_, rfl⟩
          rw [← hek] at hrg hkk ih hq
          have i0 : (0 : Int) ≤ (i : Int) := by omega
          have i1 : (i : Int) < (e.kids.length : Int) := by omega
          have hdr : Below wr.heap.size wr wr.drew := (Below.refl _ _).drew
          have hAw := IsD.grown HG.out.grown (fun k hk => by injection hk with hk; subst hk; exact HGA.out) HKA.out
          have hNw := NdIn.grown6 HG.out.grown (fun k hk => by injection hk with hk; subst hk; exact HGN.out) HKN.out
          have kk := ih wr.drew B (HC.out.below hdr) xk ck (IsD.below hdr hkk) (IsD.below hdr hAw) (NdIn.below hdr hNw)
          unfold ndV at kk
          rw [show exV ek xk ck = .agg (exC ek xk ck).toArray from rfl] at kk
          have HQ := Lib.hid hq
          have HRG := Lib.hid hrg
          have HN := Lib.hid (HG.out.get 0 rfl)
          clear hil hkw hrg hkk ih hq hAw hNw hg1 hek
          go_wp2_with fail
          refine wp_region_still_tail 8 (by kernel_rfl) (by kernel_rfl) ?_
          simp only [List.take_succ_cons, List.take_zero, List.drop_succ_cons, List.drop_zero]
          iterate 2 still_step
          refine wpStill_row6 rfl 38 (.tmp 6) rfl w.heap.size rfl 38 #[.string n.name, .slice xi n.ins.length ci, .slice xo n.outs.length co, .slice xl n.locs.length cl, .slice xe n.eqs.length ce, .int .i64 (n.at_ : Int)] (0, 0) _ HN.out Try.underlying38 rfl HSN.out ?_
          iterate 4 still_step
          refine wpStill_mid6 rfl 53 (.tmp 77) rfl g1 (i * 5) rfl (exC ek xk ck) _ HRG.out Try.underlying53 rfl HSE.out ?_
          refine wpStill_nil ?_
          change wpList _ _ _ _ _ wr.drew
          go_wp2_with fail
          (with_reducible refine kk.mono ?_)
          rintro e9 w2 ⟨rfl, hC2, hg2⟩
          have HG2 := Lib.hid ((HG.out.call hdr).own hg2)
          have HC2 := Lib.hid hC2
          clear kk hC2 hg2 c4 hdr
          go_wp2_with fail
          refine ⟨⟨i + 1, _, wrap_succ (by have := HIL.out; have := HFEW.out; omega), HIL.out, HG2.out, HC2.out, HQ.out⟩, ?_⟩
          rw [wrap_succ (by have := HIL.out; have := HFEW.out; omega)]
          have := HIL.out
          simp [intOf]; omega
        · have d1 : decide ((i : Int) < (e.kids.length : Int)) = false := by simp; omega
          obtain rfl : i = e.kids.length := by have := HI.out; omega
          rw [List.drop_length] at hq
          have HQ := Lib.hid (show R = B from hq)
          clear hil hq
          go_wp2_with fail
          refine bodyPost_end (results_none rfl _ _ _) rfl ?_
          exact ⟨rfl, by rw [HQ.out]; exact HC.out, HG.out.grown⟩
end Go.Proofs.Ytejljfoacbpliaa

namespace Go.Proofs.Ytejljfoacbpliaa
open Go Go.RowKit
def PREL : List UInt8 := [112, 114, 101]
end Go.Proofs.Ytejljfoacbpliaa

namespace Go.Proofs.Ytejljfoacbpliaa
open Go
theorem wpList_wanted {P : Program} {ops : Array Oper} {Q : Exit → Act → World → Prop} {a : Act} {w : World} {rest : List Oper} {o : Oper} (hw : Region.wanted o (yielded ops a.tmps) = true)
    (h : ∀ K : Act → World → Prop, (∀ a w, wpList P ops Q rest a w → K a w) → o.wp P a w K Q) : wpList P ops Q (o :: rest) a w :=
  wpList_step fun K hK => by rw [if_pos hw]; exact h K hK
theorem wanted_of {o : Oper} {ops : Array Oper} {t : Array Value} (k : Nat) (v : Bool) (hg : o.guard = some (k, v)) (hy : yielded ops t k = some v) : Region.wanted o (yielded ops t) = true := by
  unfold Region.wanted
  simp [hg, hy]
theorem wpList_load_row_g {P : Program} {ops : Array Oper} {rest : List Oper} {o : Oper} {a : Act} {w : World} {Q : Exit → Act → World → Prop} (k : Nat) (v : Bool) (hgd : o.guard = some (k, v)) (hy : yielded ops a.tmps k = some v) (ty : TypeId) (x : Operand) (ho : o.op = .load ty x)
    (g : Nat) (hx : a.eval x = .pointer (some ⟨g, 0, none⟩)) (t : TypeId) (cs : Array Value) (fr : Nat × Nat) (d : TypeDesc) (hg : w.heap[g]? = some (.cells cs t fr))
    (hu : P.underlying ty = some d) (hd : (match d with | .struct _ | .array _ _ => true | _ => false) = true) (hi : (P.info? ty).map (·.size) = some cs.size)
    (h : wpList P ops Q rest (a.put o.dst (.agg cs)) w) : wpList P ops Q (o :: rest) a w :=
  wpList_wanted (wanted_of k v hgd hy) fun _ hK => wp_load_row ty x ho g hx t cs fr d hg hu hd hi (hK _ _ h)
end Go.Proofs.Ytejljfoacbpliaa

namespace Go.Proofs.Ytejljfoacbpliaa
open Go Go.RowKit
def UNI : Value := .agg #[]
def SetI (w : World) (b n : Nat) (g : List UInt8 → Bool) : Prop := MapO Try.prog 9 w b n (fun s => if g s = true then some UNI else none)
theorem zero_uni (w : World) : (zeroValue 178).run Try.prog w = .ok UNI w := by kernel_rfl
theorem SetI.below {w w' : World} {b n : Nat} {g : List UInt8 → Bool} (h : SetI w b n g) (hb : Below w.heap.size w w') : SetI w' b n g := MapO.below h hb
theorem SetI.lt {w : World} {b n : Nat} {g : List UInt8 → Bool} (h : SetI w b n g) : b < w.heap.size := MapO.lt h
theorem SetI.look_ok {w : World} {b n : Nat} {g : List UInt8 → Bool} (h : SetI w b n g) (s : ByteArray) (hs : s.size ≤ maxLen) : (Instr.lookup 117 (.map (some b)) (.string s) true).run Try.prog w = .ok (.tuple #[UNI, .bool (g s.data.toList)]) w := by
  have := MapO.look_ok h Try.underlying9 Try.underlying117 (zero_uni w) s hs
  rw [this]
  cases g s.data.toList <;> rfl
theorem SetI.made (w : World) : SetI (w.alloc (.map #[] 0)) w.heap.size 0 (fun _ => false) := by
  have := MapO.made Try.prog 9 w
  unfold SetI
  simpa using this
end Go.Proofs.Ytejljfoacbpliaa

namespace Go.Proofs.Ytejljfoacbpliaa
open Go Go.RowKit
structure RtV where
  op : ByteArray
  name : ByteArray
  n : Int
  at_ : Int
  x : Option Addr
  l : Nat
  c : Nat
def RtV.key (r : RtV) : Bool × List UInt8 := (r.op.data.toList == PREL, r.name.data.toList)
end Go.Proofs.Ytejljfoacbpliaa

namespace Go.Proofs.Ytejljfoacbpliaa
open Go Go.RowKit
section
variable {P : Program} {Q : Exit → Act → World → Prop} {md : Region.Mode} {lo l : List Oper} {Sp : Nat → Value → World → Prop} {Rel : World → World → Prop} {R : Nat → World → World → Prop} {F : Nat → World → Prop} {w0 : World} {a0 : Act}
structure PreM (md : Region.Mode) (lo l : List Oper) (Sp : Nat → Value → World → Prop) (Rel : World → World → Prop) (w0 : World) (a0 : Act) (o : Oper) (a : Act) (W : World) : Prop where
  rel : Rel w0 W
  old : ∀ j, (lo.all fun x => !(x.dst == some j)) = true → a.tmps.getD j undef = a0.tmps.getD j undef
  pre : ∀ e ∈ o.after.toList, Region.binds md e = true → ∀ x, l[e.on]? = some x → ∀ d, x.dst = some d → d < a.tmps.size ∧ Sp e.on (a.tmps.getD d undef) W
theorem PreM.on_ {o : Oper} {a : Act} {W : World} (h : PreM md lo l Sp Rel w0 a0 o a W) (n : Nat) {x : Oper} {d : Tmp} (he : (o.after.toList.any fun e => e.on == n && Region.binds md e) = true) (hx : l[n]? = some x) (hd : x.dst = some d) :
    d < a.tmps.size ∧ Sp n (a.tmps.getD d undef) W := by
  obtain ⟨e, he1, he2⟩ := List.any_eq_true.1 he
  rw [Bool.and_eq_true, beq_iff_eq] at he2
  obtain ⟨rfl, h2⟩ := he2
  exact h.pre e he1 h2 x hx d hd
def StepM (P : Program) (md : Region.Mode) (Q : Exit → Act → World → Prop) (lo l : List Oper) (Sp : Nat → Value → World → Prop) (Rel : World → World → Prop) (R : Nat → World → World → Prop) (F : Nat → World → Prop) (w0 : World) (a0 : Act) (i : Nat) (o : Oper) : Prop :=
  ∀ (a : Act) (W : World), PreM md lo l Sp Rel w0 a0 o a W → F i W → wpOp P l.toArray Q i (fun a' W' => ∃ v, a' = a.put o.dst v ∧ Sp i v W' ∧ R i W W') a W
def StepsM (P : Program) (md : Region.Mode) (Q : Exit → Act → World → Prop) (lo l : List Oper) (Sp : Nat → Value → World → Prop) (Rel : World → World → Prop) (R : Nat → World → World → Prop) (F : Nat → World → Prop) (w0 : World) (a0 : Act) : Nat → List Oper → Prop
  | _, [] => True
  | i, o :: r => StepM P md Q lo l Sp Rel R F w0 a0 i o ∧ StepsM P md Q lo l Sp Rel R F w0 a0 (i + 1) r
theorem StepsM.cons {i : Nat} {o : Oper} {r : List Oper} (h : StepM P md Q lo l Sp Rel R F w0 a0 i o) (hr : StepsM P md Q lo l Sp Rel R F w0 a0 (i + 1) r) : StepsM P md Q lo l Sp Rel R F w0 a0 i (o :: r) := ⟨h, hr⟩
theorem StepsM.nil {i : Nat} : StepsM P md Q lo l Sp Rel R F w0 a0 i [] := trivial
theorem StepsM.at_ : ∀ (r : List Oper) (i : Nat), StepsM P md Q lo l Sp Rel R F w0 a0 i r → ∀ (k : Nat) (o : Oper), r[k]? = some o → StepM P md Q lo l Sp Rel R F w0 a0 (i + k) o
  | [], _, _, k, o, h => by simp at h
  | x :: r, i, hs, 0, o, h => by
    simp only [List.getElem?_cons_zero, Option.some.injEq] at h
    subst h
    exact hs.1
  | x :: r, i, hs, k + 1, o, h => by
    have := StepsM.at_ r (i + 1) hs.2 k o (by simpa using h)
    rwa [show i + 1 + k = i + (k + 1) by omega] at this
structure InvM (lo l : List Oper) (Sp : Nat → Value → World → Prop) (Rel : World → World → Prop) (R : Nat → World → World → Prop) (F : Nat → World → Prop) (w0 : World) (a0 : Act) (listed : Array Bool) (a : Act) (W : World) : Prop where
  size : listed.size = l.length
  rel : Rel w0 W
  fst : ∀ i, i < l.length → listed.getD i false = false → F i W
  defers : a.defers = a0.defers
  tmps : a.tmps.size = a0.tmps.size
  old : ∀ j, (∀ x ∈ lo, x.dst ≠ some j) → a.tmps.getD j undef = a0.tmps.getD j undef
  new : ∀ i x d, l[i]? = some x → listed.getD i false = true → x.dst = some d → Sp i (a.tmps.getD d undef) W
theorem InvM.step (hRt : ∀ a b c, Rel a b → Rel b c → Rel a c) (hRR : ∀ i W W', R i W W' → Rel W W') (hF : ∀ i j W W', j ≠ i → F j W → R i W W' → F j W')
    (hst : ∀ i j v W W', j ≠ i → Sp j v W → R i W W' → Sp j v W') (h1 : single l = true) (h2 : within l a0.tmps.size = true)
    {listed : Array Bool} {a : Act} {W : World} (h : InvM lo l Sp Rel R F w0 a0 listed a W) {i : Nat} {o : Oper} (hi : l[i]? = some o) (hlo : o ∈ lo) (hun : listed.getD i false = false) {v : Value} {W' : World} (hv : Sp i v W') (hr : R i W W') :
    InvM lo l Sp Rel R F w0 a0 (listed.setIfInBounds i true) (a.put o.dst v) W' := by
  have hil : i < l.length := (List.getElem?_eq_some_iff.1 hi).1
  refine ⟨by simpa using h.size, hRt _ _ _ h.rel (hRR _ _ _ hr), fun k hkl hk => ?_, put_defers.trans h.defers, put_size.trans h.tmps, fun j hj => ?_, fun k x d hk hl hd => ?_⟩
  · by_cases e : i = k
    · subst e
      have hlt : i < listed.size := by rw [h.size]; exact hil
      simp [Array.getD, hlt] at hk
    · rw [getD_set_ne _ e] at hk
      exact hF i k _ _ (Ne.symm e) (h.fst k hkl hk) hr
  · rw [put_other (hj o hlo), h.old j hj]
  · by_cases hki : k = i
    · subst hki
      rw [hi] at hk
      injection hk with hk
      subst hk
      rw [hd, put_same (by rw [h.tmps]; exact within_spec h2 (List.mem_of_getElem? hi) hd)]
      exact hv
    · rw [put_other (fun e => hki (single_spec h1 hk hi hd e))]
      rw [getD_set_ne _ (Ne.symm hki)] at hl
      exact hst i k _ _ _ hki (h.new k x d hk hl hd) hr
theorem wpAny_stepsM (hRt : ∀ a b c, Rel a b → Rel b c → Rel a c) (hRR : ∀ i W W', R i W W' → Rel W W') (hF : ∀ i j W W', j ≠ i → F j W → R i W W' → F j W')
    (hst : ∀ i j v W W', j ≠ i → Sp j v W → R i W W' → Sp j v W') (h1 : single l = true) (h2 : within l a0.tmps.size = true) (h3 : aheadOps md l = true) (hs : StepsM P md Q l l Sp Rel R F w0 a0 0 l)
    (hdone : ∀ a W, InvM l l Sp Rel R F w0 a0 (Array.replicate l.length true) a W → Q .normal a W) :
    ∀ (fuel : Nat) (listed : Array Bool) (a : Act) (W : World), InvM l l Sp Rel R F w0 a0 listed a W → listed.toList.count false ≤ fuel → wpAny P md l.toArray Q fuel listed a W := by
  have empty : ∀ (listed : Array Bool), listed.size = l.length → Region.ready md l.toArray listed = [] → listed = Array.replicate l.length true := by
    intro listed hsz hr
    have all : ∀ n i, i < n → i < l.length → listed.getD i false = true := by
      intro n
      induction n with
      | zero => intro i hi; omega
      | succ n ih =>
        intro i hi hil
        by_cases hin : i < n
        · exact ih i hin hil
        · cases hb : listed.getD i false with
          | true => rfl
          | false =>
            have hlt : i < listed.size := by omega
            have hmem : i ∈ Region.ready md l.toArray listed := by
              rw [mem_ready]
              refine ⟨by simpa [Array.getD, hlt] using hb, l[i], by simp [hil], fun e he hbe => ?_⟩
              have hlt' := aheadOps_spec h3 (i := i) (o := l[i]) (by simp [hil]) (Array.mem_toList_iff.2 he) hbe
              exact ih e.on (by omega) (by omega)
            rw [hr] at hmem
            cases hmem
    apply Array.ext
    · simp [hsz]
    · intro i hi1 hi2
      have := all (i + 1) i (Nat.lt_succ_self _) (by omega)
      simpa [Array.getD, hi1] using this
  intro fuel
  induction fuel with
  | zero =>
    intro listed a W hI hc
    have hall : ∀ b ∈ listed.toList, b = true := by
      intro b hb
      cases b with
      | true => rfl
      | false => have := List.count_pos_iff.2 hb; omega
    have hr : Region.ready md l.toArray listed = [] := by
      cases hr : Region.ready md l.toArray listed with
      | nil => rfl
      | cons j js =>
        have hj : j ∈ Region.ready md l.toArray listed := by rw [hr]; exact List.mem_cons_self ..
        rw [mem_ready] at hj
        have hlt : j < listed.size := by
          rcases Nat.lt_or_ge j listed.size with h' | h'
          · exact h'
          · have := hj.1; simp [Array.getD, Nat.not_lt.2 h'] at this
        have hb := hall (listed[j]) (by simp)
        have hf := hj.1
        simp [Array.getD, hlt, hb] at hf
    refine ⟨hr, hdone a W ?_⟩
    rw [← empty listed hI.size hr]
    exact hI
  | succ fuel ih =>
    intro listed a W hI hc
    refine ⟨fun hr => hdone a W (by rw [← empty listed hI.size hr]; exact hI), fun i hi => ?_⟩
    rw [mem_ready] at hi
    obtain ⟨hf, o, ho, hpre⟩ := hi
    have hio : l[i]? = some o := by simpa using ho
    have hil : i < l.length := (List.getElem?_eq_some_iff.1 hio).1
    have hst' := StepsM.at_ l 0 hs i o hio
    rw [Nat.zero_add] at hst'
    have hun : listed.getD i false = false := by
      have hlt : i < listed.size := by rw [hI.size]; exact hil
      simpa [Array.getD, hlt] using hf
    refine wpOp_mono ?_ (hst' a W ⟨hI.rel, fun j hj => hI.old j (fun x hx hd => by
      have := (List.all_eq_true.1 hj) x hx
      simp [hd] at this), fun e he hb x hx d hd => ⟨by rw [hI.tmps]; exact within_spec h2 (List.mem_of_getElem? hx) hd, hI.new e.on x d hx (hpre e (Array.mem_toList_iff.1 he) hb) hd⟩⟩ (hI.fst i hil hun))
    rintro a' W' ⟨v, rfl, hv, hr⟩
    have := count_set hf
    exact ih _ _ _ (hI.step hRt hRR hF hst h1 h2 hio (List.mem_of_getElem? hio) hun hv hr) (by omega)
theorem wp_region_stepsM {id : Nat} {a0 : Act} {w : World} (Sp : Nat → Value → World → Prop) (Rel : World → World → Prop) (R : Nat → World → World → Prop) (F : Nat → World → Prop) (hm : P.follows .mixedOrders = true)
    (hRt : ∀ a b c, Rel a b → Rel b c → Rel a c) (hRR : ∀ i W W', R i W W' → Rel W W') (hF : ∀ i j W W', j ≠ i → F j W → R i W W' → F j W') (hd : Rel w w.drew) (hF0 : ∀ i, F i w.drew)
    (hst : ∀ i j v W W', j ≠ i → Sp j v W → R i W W' → Sp j v W') (h1 : single l = true) (h2 : within l a0.tmps.size = true) (h3 : aheadOps .any l = true) (hs : StepsM P .any Q l l Sp Rel R F w a0 0 l)
    (hdone : ∀ a W, InvM l l Sp Rel R F w a0 (Array.replicate l.length true) a W → Q .normal a W) : (Code.region id l.toArray true).wp P Q a0 w := by
  refine wp_region_any hm ?_
  have hfalse : ∀ i, (Array.replicate l.toArray.size false).getD i false = false := by
    intro i
    simp [Array.getD]
  refine wpAny_stepsM hRt hRR hF hst h1 h2 h3 hs hdone _ _ _ _ ⟨by simp, hd, fun i _ _ => hF0 i, rfl, rfl, fun _ _ => rfl, fun i x d _ hl _ => ?_⟩ ?_
  · rw [hfalse] at hl
    cases hl
  · simp
theorem wpAny_stepsM_then (hRt : ∀ a b c, Rel a b → Rel b c → Rel a c) (hRR : ∀ i W W', R i W W' → Rel W W') (hF : ∀ i j W W', j ≠ i → F j W → R i W W' → F j W')
    (hst : ∀ i j v W W', j ≠ i → Sp j v W → R i W W' → Sp j v W') (h1 : single l = true) (h2 : within l a0.tmps.size = true) (h3 : aheadOps md l = true) (h4 : covers md l = true) (l0 : List Oper) (o0 : Oper) (hl : l = l0 ++ [o0]) (hs : StepsM P md Q l0 l Sp Rel R F w0 a0 0 l0)
    (hlast : ∀ a W, InvM l0 l Sp Rel R F w0 a0 ((Array.replicate l.length true).setIfInBounds l0.length false) a W → wpOp P l.toArray Q l0.length (fun a' W' => Q .normal a' W') a W) :
    ∀ (fuel : Nat) (listed : Array Bool) (a : Act) (W : World), InvM l0 l Sp Rel R F w0 a0 listed a W → listed.getD l0.length true = false →
      (∀ i, listed.getD i false = true → ∀ o, l[i]? = some o → ∀ e ∈ o.after.toList, Region.binds md e = true → listed.getD e.on false = true) → listed.toList.count false ≤ fuel → wpAny P md l.toArray Q fuel listed a W := by
  have hlen : l.length = l0.length + 1 := by rw [hl]; simp
  have hol : l[l0.length]? = some o0 := by rw [hl]; simp
  -- there is always one that may come up
  have some_ready : ∀ (listed : Array Bool), listed.size = l.length → listed.getD l0.length true = false → Region.ready md l.toArray listed ≠ [] := by
    intro listed hsz hlast0 hr
    have all : ∀ n i, i < n → i < l.length → listed.getD i false = true := by
      intro n
      induction n with
      | zero => intro i hi; omega
      | succ n ih =>
        intro i hi hil
        by_cases hin : i < n
        · exact ih i hin hil
        · cases hb : listed.getD i false with
          | true => rfl
          | false =>
            have hlt : i < listed.size := by omega
            have hmem : i ∈ Region.ready md l.toArray listed := by
              rw [mem_ready]
              refine ⟨by simpa [Array.getD, hlt] using hb, l[i], by simp [hil], fun e he hbe => ?_⟩
              have hlt' := aheadOps_spec h3 (i := i) (o := l[i]) (by simp [hil]) (Array.mem_toList_iff.2 he) hbe
              exact ih e.on (by omega) (by omega)
            rw [hr] at hmem
            cases hmem
    have hlt : l0.length < listed.size := by omega
    have := all (l0.length + 1) l0.length (Nat.lt_succ_self _) (by omega)
    simp [Array.getD, hlt] at this hlast0
    rw [this] at hlast0
    cases hlast0
  intro fuel
  induction fuel with
  | zero =>
    intro listed a W hI hlast0 _ hc
    exfalso
    have hlt : l0.length < listed.size := by rw [hI.size]; omega
    have hv : listed[l0.length] = false := by simpa [Array.getD, hlt] using hlast0
    have hpos : 0 < listed.toList.count false := List.count_pos_iff.2 (by rw [← hv]; simp)
    omega
  | succ fuel ih =>
    intro listed a W hI hlast0 hcl hc
    refine ⟨fun hr => absurd hr (some_ready listed hI.size hlast0), fun i hi => ?_⟩
    rw [mem_ready] at hi
    obtain ⟨hf, o, ho, hpre⟩ := hi
    have hio : l[i]? = some o := by simpa using ho
    have hil : i < l.length := (List.getElem?_eq_some_iff.1 hio).1
    by_cases hi0 : i < l0.length
    · have hio0 : l0[i]? = some o := by
        rw [hl, List.getElem?_append_left hi0] at hio
        exact hio
      have hst' := StepsM.at_ l0 0 hs i o hio0
      rw [Nat.zero_add] at hst'
      have hun : listed.getD i false = false := by
        have hlt : i < listed.size := by rw [hI.size]; exact hil
        simpa [Array.getD, hlt] using hf
      refine wpOp_mono ?_ (hst' a W ⟨hI.rel, fun j hj => hI.old j (fun x hx hd => by
        have := (List.all_eq_true.1 hj) x hx
        simp [hd] at this), fun e he hb x hx d hd => ⟨by rw [hI.tmps]; exact within_spec h2 (List.mem_of_getElem? hx) hd, hI.new e.on x d hx (hpre e (Array.mem_toList_iff.1 he) hb) hd⟩⟩ (hI.fst i hil hun))
      rintro a' W' ⟨v, rfl, hv, hr⟩
      have := count_set hf
      refine ih _ _ _ (hI.step hRt hRR hF hst h1 h2 hio (List.mem_of_getElem? hio0) hun hv hr) ?_ ?_ (by omega)
      · simp only [Array.getD, Array.size_setIfInBounds]
        have hlt : l0.length < listed.size := by rw [hI.size]; omega
        simp only [hlt, dite_true]
        rw [Array.getInternal_eq_getElem, Array.getElem_setIfInBounds_ne (by assumption) (by omega)]
        simpa [Array.getD, hlt] using hlast0
      · intro j hj x hx e he hb'
        have mono : ∀ k, listed.getD k false = true → (listed.setIfInBounds i true).getD k false = true := by
          intro k hk
          by_cases hki : k = i
          · subst hki
            have hlt : k < listed.size := by rw [hI.size]; omega
            simp [Array.getD, hlt]
          · rw [getD_set_ne _ (Ne.symm hki)]
            exact hk
        by_cases hji : j = i
        · subst hji
          rw [hio] at hx
          injection hx with hx
          subst hx
          exact mono _ (hpre e (Array.mem_toList_iff.1 he) hb')
        · rw [getD_set_ne _ (Ne.symm hji)] at hj
          exact mono _ (hcl j hj x hx e he hb')
    · obtain rfl : i = l0.length := by omega
      rw [hol] at hio
      injection hio with hio
      subst hio
      have good := reaches_good md l (fun i => i = l0.length ∨ listed.getD i false = true) (fun j hj x hx e he hb => by
        rcases hj with rfl | hj
        · rw [hol] at hx
          injection hx with hx
          subst hx
          exact .inr (hpre e (Array.mem_toList_iff.1 he) hb)
        · exact .inr (hcl j hj x hx e he hb)) l.length [l.length - 1] (fun j hj => by
          rw [List.mem_singleton] at hj
          exact .inl (by omega))
      have hall : ∀ j, j < l.length → j = l0.length ∨ listed.getD j false = true := by
        intro j hj
        unfold covers at h4
        rw [List.all_eq_true] at h4
        exact good j (List.contains_iff_mem.1 (h4 j (List.mem_range.2 hj)))
      have hlisted : listed = (Array.replicate l.length true).setIfInBounds l0.length false := by
        apply Array.ext
        · simp [hI.size]
        · intro j hj1 hj2
          by_cases hj : j = l0.length
          · subst hj
            have : listed[l0.length] = false := by simpa [Array.getD, hj1] using hlast0
            simp [this]
          · rw [Array.getElem_setIfInBounds_ne (by simpa using (by rw [← hI.size]; exact hj1)) (by omega)]
            rcases hall j (by rw [← hI.size]; exact hj1) with h | h
            · exact absurd h hj
            · simpa [Array.getD, hj1] using h
      have hrep : (listed.setIfInBounds l0.length true) = Array.replicate l.length true := by
        rw [hlisted]
        apply Array.ext
        · simp
        · intro j hj1 hj2
          by_cases hj : j = l0.length
          · subst hj; simp
          · rw [Array.getElem_setIfInBounds_ne (by simpa using hj2) (by omega), Array.getElem_setIfInBounds_ne (by simpa using hj2) (by omega)]
      have hready : Region.ready md l.toArray (Array.replicate l.length true) = [] := by
        cases hr : Region.ready md l.toArray (Array.replicate l.length true) with
        | nil => rfl
        | cons j js =>
          have hj : j ∈ Region.ready md l.toArray (Array.replicate l.length true) := by rw [hr]; exact List.mem_cons_self ..
          rw [mem_ready] at hj
          have hlt : j < l.length := by
            rcases Nat.lt_or_ge j l.length with h' | h'
            · exact h'
            · have := hj.1; simp [Array.getD, Nat.not_lt.2 h'] at this
          have := hj.1
          simp [Array.getD, hlt] at this
      have hop := hlast a W (by rw [← hlisted]; exact hI)
      refine wpOp_mono ?_ hop
      intro a' W' hQ
      rw [hrep]
      cases fuel with
      | zero => exact ⟨hready, hQ⟩
      | succ f => exact ⟨fun _ => hQ, fun i hi => by rw [hready] at hi; cases hi⟩
theorem wp_region_stepsM_then {id : Nat} {a0 : Act} {w : World} (Sp : Nat → Value → World → Prop) (Rel : World → World → Prop) (R : Nat → World → World → Prop) (F : Nat → World → Prop) (hm : P.follows .mixedOrders = true)
    (hRt : ∀ a b c, Rel a b → Rel b c → Rel a c) (hRR : ∀ i W W', R i W W' → Rel W W') (hF : ∀ i j W W', j ≠ i → F j W → R i W W' → F j W') (hd : Rel w w.drew) (hF0 : ∀ i, F i w.drew)
    (hst : ∀ i j v W W', j ≠ i → Sp j v W → R i W W' → Sp j v W') (h1 : single l = true) (h2 : within l a0.tmps.size = true) (h3 : aheadOps .any l = true) (h4 : covers .any l = true) (n : Nat) (o0 : Oper) (ho0 : l[n]? = some o0) (hln : l.length = n + 1) (hs : StepsM P .any Q (l.take n) l Sp Rel R F w a0 0 (l.take n))
    (hlast : ∀ a W, InvM (l.take n) l Sp Rel R F w a0 ((Array.replicate l.length true).setIfInBounds n false) a W → wpOp P l.toArray Q n (fun a' W' => Q .normal a' W') a W) : (Code.region id l.toArray true).wp P Q a0 w := by
  obtain ⟨l0, hl0⟩ : ∃ l0, l0 = l.take n := ⟨_, rfl⟩
  rw [← hl0] at hs hlast
  have hn : l0.length = n := by rw [hl0, List.length_take]; omega
  have hl : l = l0 ++ [o0] := by
    have e0 : l[n]'(by omega) = o0 := by rw [List.getElem?_eq_getElem (by omega)] at ho0; exact Option.some.inj ho0
    conv => lhs; rw [← List.take_append_drop n l]
    rw [← hl0, List.drop_eq_getElem_cons (by omega), List.drop_of_length_le (by omega), e0]
  clear hl0 ho0 hln
  subst hn
  refine wp_region_any hm ?_
  have hlen : l.length = l0.length + 1 := by rw [hl]; simp
  have hfalse : ∀ i, (Array.replicate l.toArray.size false).getD i false = false := by
    intro i
    simp [Array.getD]
  refine wpAny_stepsM_then hRt hRR hF hst h1 h2 h3 h4 l0 o0 hl hs hlast _ _ _ _ ⟨by simp, hd, fun i _ _ => hF0 i, rfl, rfl, fun _ _ => rfl, fun i x d _ hl _ => ?_⟩ ?_ ?_ ?_
  · rw [hfalse] at hl
    cases hl
  · simp [Array.getD, hlen]
  · intro i hi
    rw [hfalse] at hi
    cases hi
  · simp
theorem stepM_value {i : Nat} {o : Oper} (hi : l[i]? = some o) (h : ∀ a W, PreM md lo l Sp Rel w0 a0 o a W → F i W → Region.wanted o (yielded l.toArray a.tmps) = true ∧ ∃ v W', (execOp a.eval o).run P W = .ok (.value v) W' ∧ Sp i v W' ∧ R i W W') :
    StepM P md Q lo l Sp Rel R F w0 a0 i o := fun a W hp hF => by
  obtain ⟨hw, v, W', hr, hs, hb⟩ := h a W hp hF
  exact wpOp_value hi hw hr ⟨v, rfl, hs, hb⟩
theorem stepM_enter {i : Nat} {o : Oper} (hi : l[i]? = some o) (h : ∀ a W, PreM md lo l Sp Rel w0 a0 o a W → F i W → Region.wanted o (yielded l.toArray a.tmps) = true ∧ ∃ f args, (execOp a.eval o).run P W = .ok (.enter f args) W ∧ Calls P f args W fun e W' => ∃ v, e = .returned v ∧ Sp i v W' ∧ R i W W') :
    StepM P md Q lo l Sp Rel R F w0 a0 i o := fun a W hp hF => by
  obtain ⟨hw, f, args, hr, hc⟩ := h a W hp hF
  refine wpOp_of hi hw ?_
  unfold Oper.wp
  rw [hr, Oper.upon_enter]
  refine hc.mono ?_
  rintro e W' ⟨v, rfl, hs, hb⟩
  exact ⟨v, rfl, hs, hb⟩
end
end Go.Proofs.Ytejljfoacbpliaa

namespace Go.Proofs.Ytejljfoacbpliaa
open Go Go.RowKit
section
variable {P : Program} {W : World} {o : Oper} {ρ : Operand → Value}
end
theorem put_getD (a : Act) (s j : Nat) (v : Value) : (a.put (some s) v).tmps.getD j undef = if s = j ∧ j < a.tmps.size then v else a.tmps.getD j undef := by
  by_cases h : s = j
  · subst h
    by_cases hs : s < a.tmps.size
    · rw [put_same hs, if_pos ⟨rfl, hs⟩]
    · rw [if_neg (fun h => hs h.2)]
      simp [Act.put, Array.getD, hs]
  · rw [put_other (by intro e; injection e with e; exact h e), if_neg (fun e => h e.1)]
theorem puts_size (f : Nat → Value) : ∀ (S : List Nat) (a : Act), (S.foldl (fun x j => x.put (some j) (f j)) a).tmps.size = a.tmps.size
  | [], _ => rfl
  | s :: S, a => by rw [List.foldl_cons, puts_size f S, put_size]
theorem puts_defers (f : Nat → Value) : ∀ (S : List Nat) (a : Act), (S.foldl (fun x j => x.put (some j) (f j)) a).defers = a.defers
  | [], _ => rfl
  | s :: S, a => by rw [List.foldl_cons, puts_defers f S, put_defers]
theorem puts_getD (f : Nat → Value) (j : Nat) : ∀ (S : List Nat) (a : Act), (S.foldl (fun x j => x.put (some j) (f j)) a).tmps.getD j undef = if j ∈ S ∧ j < a.tmps.size then f j else a.tmps.getD j undef
  | [], _ => by simp
  | s :: S, a => by
    rw [List.foldl_cons, puts_getD f j S, put_size, put_getD]
    by_cases h1 : j < a.tmps.size
    · by_cases h2 : j ∈ S
      · simp [h1, h2]
      · by_cases h3 : s = j
        · subst h3
          simp [h1, h2]
        · simp [h1, h2, h3, Ne.symm h3]
    · simp [h1]
theorem puts_of {l : List Oper} {a0 a : Act} (htm : a.tmps.size = a0.tmps.size) (hdf : a.defers = a0.defers) (hold : ∀ j, (∀ x ∈ l, x.dst ≠ some j) → a.tmps.getD j undef = a0.tmps.getD j undef) (S : List Nat) (hS : l.filterMap (·.dst) = S) :
    ∃ f : Nat → Value, (∀ j, a.tmps.getD j undef = f j) ∧ a = S.foldl (fun x j => x.put (some j) (f j)) a0 := by
  refine ⟨fun j => a.tmps.getD j undef, fun _ => rfl, ?_⟩
  have ext : ∀ b : Act, a.tmps.size = b.tmps.size → a.defers = b.defers → (∀ j, a.tmps.getD j undef = b.tmps.getD j undef) → a = b := by
    intro b h1 h2 h3
    obtain ⟨ta, da⟩ := a
    obtain ⟨tb, db⟩ := b
    simp only at h1 h2 h3
    subst h2
    congr 1
    apply Array.ext
    · exact h1
    · intro i hi hi2
      have := h3 i
      simpa [Array.getD, hi, hi2] using this
  refine ext _ (by rw [puts_size, htm]) (by rw [puts_defers, hdf]) fun j => ?_
  rw [puts_getD]
  split
  · rfl
  · rename_i hn
    by_cases hj : j ∈ S
    · have hlt : ¬ j < a0.tmps.size := fun hlt => hn ⟨hj, hlt⟩
      simp [Array.getD, hlt, htm]
    · exact hold j fun x hx hd => hj (by rw [← hS]; exact List.mem_filterMap.2 ⟨x, hx, hd⟩)
end Go.Proofs.Ytejljfoacbpliaa

namespace Go.Proofs.Ytejljfoacbpliaa
open Go Go.RowKit
def TxD (l : List ByteArray) : List Dt := l.map (fun s => Dt.v (.string s))
theorem TxD_len (l : List ByteArray) : (TxD l).length = l.length * 1 := by simp [TxD]
theorem RowsD.takeN {ok : Nat → Prop} {w : World} : ∀ (n : Nat) (xs : List Value) (ds : List Dt), RowsD ok w xs ds → RowsD ok w (xs.take n) (ds.take n)
  | 0, _, _, _ => by simp only [List.take_zero]; trivial
  | _ + 1, [], [], _ => trivial
  | n + 1, _ :: xs, _ :: ds, ⟨h1, h2⟩ => ⟨h1, RowsD.takeN n xs ds h2⟩
  | _ + 1, [], _ :: _, h => h.elim
  | _ + 1, _ :: _, [], h => h.elim
theorem OwnD.less {T : TypeId} {w : World} {b : Nat} {x : Option Addr} {n c : Nat} {ds : List Dt} (h : OwnD T 1 w b (.slice x (n + 1) c) (n + 1) ds) : OwnD T 1 w b (.slice x n c) n (ds.take n) := by
  obtain ⟨xs, h1, h2⟩ := h
  have hob : (Value.slice x n c).ownBlock = (Value.slice x (n + 1) c).ownBlock := by cases x <;> rfl
  refine ⟨xs.take n, ⟨by rw [List.length_take]; have := h1.1; omega, ?_⟩, by rw [hob]; exact h2.takeN n _ _⟩
  rcases h1.2 with ⟨e, h0⟩ | ⟨g, cap, cur, e, hbg, hg, hn, hc, hcs, ht⟩
  · omega
  · injection e with e1 e2 e3
    subst e1; subst e3
    exact .inr ⟨g, c, cur, rfl, hbg, hg, by omega, hc, hcs, by rw [← ht, List.take_take]; congr 1; omega⟩
theorem OwnD.cell {T : TypeId} {w : World} {b : Nat} {x : Option Addr} {n c : Nat} {l : List ByteArray} (h : OwnD T 1 w b (.slice x n c) n (TxD l)) (i : Nat) (hi : i < l.length) : ∃ g, x = some ⟨g, 0, none⟩ ∧ w.cell? ⟨g, i, none⟩ = some (.string l[i]) := by
  have hlen := h.len
  rw [TxD_len] at hlen
  obtain ⟨xs, h1, h2⟩ := h
  have hx : xs = l.map Value.string := by
    clear h1 hlen hi
    revert l
    induction xs with
    | nil =>
      intro l h2
      cases l with
      | nil => rfl
      | cons a r => exact h2.elim
    | cons u r ih =>
      intro l h2
      cases l with
      | nil => exact h2.elim
      | cons a r' =>
        obtain ⟨h3, h4⟩ := h2
        unfold IsD at h3
        rw [h3, ih h4]; rfl
  subst hx
  rcases h1.2 with ⟨e, h0⟩ | ⟨g, cap, cur, e, hbg, hg, hn, hc, hcs, ht⟩
  · omega
  · injection e with e1 e2 e3
    subst e1
    have := h1.cells (g := g) rfl i (.string l[i]) (by simp [hi])
    rw [Addr.add_lit] at this
    exact ⟨g, rfl, by simpa using this⟩
theorem OwnD.ne {T T' : TypeId} {sz : Nat} {w : World} {b : Nat} {v : Value} {n : Nat} {ds : List Dt} (h : OwnD T sz w b v n ds) {c : Nat} {cs : Array Value} {fr : Nat × Nat} (hc : w.heap[c]? = some (.cells cs T' fr)) (hne : T ≠ T') : ∀ k, v.ownBlock = some k → k ≠ c := fun k hk e => by
  obtain ⟨xs, h1, _⟩ := h
  obtain ⟨c', fz, h2⟩ := Lib.ownsRow_kind h1 k hk
  rw [e, hc] at h2
  injection h2 with h2
  injection h2 with _ h2 _
  exact hne h2.symm
theorem InvM.putsI {lo l : List Oper} {Sp : Nat → Value → World → Prop} {Rel : World → World → Prop} {R : Nat → World → World → Prop} {F : Nat → World → Prop} {w0 W : World} {a0 a : Act} {listed : Array Bool} (h : InvM lo l Sp Rel R F w0 a0 listed a W) (S : List Nat) (hS : lo.filterMap (·.dst) = S) :
    ∃ f : Nat → Value, (∀ j, a.tmps.getD j undef = f j) ∧ a = S.foldl (fun x j => x.put (some j) (f j)) a0 := puts_of h.tmps h.defers h.old S hS
def RU (A : Value) (i : Nat) (X X' : World) : Prop := if i = 10 then X.grownBy X' A.ownBlock else Below X.heap.size X X'
theorem RU.below {A : Value} {i : Nat} {X X' : World} (h : Below X.heap.size X X') : RU A i X X' := by
  unfold RU
  split
  · exact ⟨h.os, h.tape, h.output, h.size, fun k hk _ => h.block k hk⟩
  · exact h
structure UsI (w : World) (bu m : Nat) (F : List UInt8 → Option Value) (f : List UInt8 → List ByteArray) (V : Value) (nx : List ByteArray) : Prop where
  map : MapO Try.prog 9 w bu m F
  nil : ∀ s, F s = none → f s = []
  row : ∀ s v, F s = some v → OwnD 9 1 w bu v (f s).length (TxD (f s))
  next : OwnD 9 1 w bu V nx.length (TxD nx)
  apart : ∀ s v k, F s = some v → v.ownBlock = some k → V.ownBlock ≠ some k
  apart2 : ∀ s s' v v' k, s ≠ s' → F s = some v → F s' = some v' → v.ownBlock = some k → v'.ownBlock ≠ some k
section
variable {w w' : World} {bu m : Nat} {F : List UInt8 → Option Value} {f : List UInt8 → List ByteArray} {V : Value} {nx : List ByteArray}
theorem UsI.made (w : World) : UsI (w.alloc (.map #[] 0)) w.heap.size 0 (fun _ => none) (fun _ => []) (.slice none 0 0) [] :=
  ⟨MapO.made _ _ w, fun _ _ => rfl, (fun _ _ h => by cases h), OwnD.nil _ _ _ _, (fun _ _ _ h => by cases h), (fun _ _ _ _ _ _ h => by cases h)⟩
theorem UsI.lt (h : UsI w bu m F f V nx) : bu < w.heap.size := h.map.lt
end
end Go.Proofs.Ytejljfoacbpliaa

namespace Go.Proofs.Ytejljfoacbpliaa
open Go Go.RowKit
abbrev NumG := List UInt8 → Option Int
end Go.Proofs.Ytejljfoacbpliaa

namespace Go.Proofs.Ytejljfoacbpliaa
open Go Go.RowKit
def NumI (w : World) (b n : Nat) (g : NumG) : Prop := MapO Try.prog 9 w b n (fun s => (g s).map (Value.int .i64))
theorem zero_int (w : World) : (zeroValue 3).run Try.prog w = .ok (.int .i64 0) w := by kernel_rfl
theorem NumI.below {w w' : World} {b n : Nat} {g : NumG} (h : NumI w b n g) (hb : Below w.heap.size w w') : NumI w' b n g := MapO.below h hb
theorem NumI.lt {w : World} {b n : Nat} {g : NumG} (h : NumI w b n g) : b < w.heap.size := MapO.lt h
theorem NumI.look_ok {w : World} {b n : Nat} {g : NumG} (h : NumI w b n g) (s : ByteArray) (hs : s.size ≤ maxLen) : (Instr.lookup 129 (.map (some b)) (.string s) true).run Try.prog w = .ok (.tuple #[.int .i64 ((g s.data.toList).getD 0), .bool (g s.data.toList).isSome]) w := by
  have := MapO.look_ok h Try.underlying9 Try.underlying129 (zero_int w) s hs
  rw [this]
  cases g s.data.toList <;> rfl
theorem info_intC : ∃ i, Try.prog.info? 3 = some i ∧ (∃ z, i.zero = some z ∧ z.cells.size = 1) ∧ i.size = 1 ∧ i.bytes = 8 := by
  have h : (Try.prog.info? 3).map (fun i => (i.zero.map (·.cells.size), i.size, i.bytes)) = some (some 1, 1, 8) := by kernel_rfl
  cases hi : Try.prog.info? 3 with
  | none => rw [hi] at h; simp at h
  | some i =>
    rw [hi] at h
    simp only [Option.map_some, Option.some.injEq, Prod.mk.injEq] at h
    obtain ⟨hz, hs, hb⟩ := h
    cases hzz : i.zero with
    | none => rw [hzz] at hz; simp at hz
    | some z => exact ⟨i, rfl, ⟨z, hzz, by rw [hzz] at hz; simpa using hz⟩, hs, hb⟩
theorem sl_oneC (k : Int) (W : World) : (Instr.buildSlice 130 1 #[(0, .int .i64 k)]).run Try.prog W = .ok (.slice (some ⟨W.heap.size, 0, none⟩) 1 1) (W.alloc (.cells #[.int .i64 k] 3)) := by kernel_rfl
def GrN (w : World) (V : Value) (w' : World) (V' : Value) : Prop := w.grownBy w' V.ownBlock ∧ ∀ k, V'.ownBlock = some k → V.ownBlock = some k ∨ w.heap.size ≤ k
theorem GrN.refl (w : World) (V : Value) : GrN w V w V := ⟨⟨rfl, rfl, rfl, Nat.le_refl _, fun _ _ _ => rfl⟩, fun _ hk => .inl hk⟩
theorem GrN.trans {w w1 w2 : World} {V V1 V2 : Value} (h1 : GrN w V w1 V1) (h2 : GrN w1 V1 w2 V2) : GrN w V w2 V2 :=
  ⟨⟨h2.1.os.trans h1.1.os, h2.1.tape.trans h1.1.tape, h2.1.output.trans h1.1.output, Nat.le_trans h1.1.size h2.1.size, fun k hk hne => (h2.1.block k (Nat.lt_of_lt_of_le hk h1.1.size) (fun e => by
    rcases h1.2 k e.symm with h | h
    · exact hne h.symm
    · omega)).trans (h1.1.block k hk hne)⟩, fun k hk => by
    rcases h2.2 k hk with h | h
    · exact h1.2 k h
    · exact .inr (Nat.le_trans h1.1.size h)⟩
theorem GrN.below {w w' : World} {V V' : Value} {b : Nat} (h : GrN w V w' V') (hV : ∀ k, V.ownBlock = some k → b < k) (hb : b + 1 ≤ w.heap.size) : Below (b + 1) w w' :=
  ⟨h.1.os, h.1.tape, h.1.output, h.1.size, fun k hk => h.1.block k (Nat.lt_of_lt_of_le hk hb) (fun e => by have := hV k e.symm; omega)⟩
end Go.Proofs.Ytejljfoacbpliaa

namespace Go.Proofs.Ytejljfoacbpliaa
open Go Go.RowKit
def allK6 : List Vr → List Int → Bool
  | _, [] => true
  | [], _ :: _ => true
  | v :: vs, k :: ks => ((v.kind : Int) == k) && allK6 vs ks
def callee6 (l : List Nd) (nm : ByteArray) : Nd := l.getD ((nodeOf6 nm.data.toList l 0).getD 0) ndZ6
def vk6 (n : Nd) (nm : ByteArray) : Int := (((find6 nm.data.toList (vars6 n)).getD vrZ).kind : Int)
def rule6 (l : List Nd) (n : Nd) (op nm : ByteArray) (ks : List Int) : Bool × Int :=
  if op.data.toList = [105, 110, 116] then (true, 2) else
  if op.data.toList = [98, 111, 111, 108] then (true, 1) else
  if op.data.toList = [118, 97, 114] then (true, vk6 n nm) else
  if op.data.toList = [110, 111, 116] then (ks.getD 0 0 == 1, 1) else
  if op.data.toList = [110, 101, 103] then (ks.getD 0 0 == 2, 2) else
  if op.data.toList = [112, 114, 101] then (true, ks.getD 0 0) else
  if op.data.toList = [43] ∨ op.data.toList = [45] ∨ op.data.toList = [42] ∨ op.data.toList = [47] ∨ op.data.toList = [109, 111, 100] then ((ks.getD 0 0 == 2) && (ks.getD 1 0 == 2), 2) else
  if op.data.toList = [61] ∨ op.data.toList = [60, 62] then (ks.getD 0 0 == ks.getD 1 0, 1) else
  if op.data.toList = [60] ∨ op.data.toList = [60, 61] ∨ op.data.toList = [62] ∨ op.data.toList = [62, 61] then ((ks.getD 0 0 == 2) && (ks.getD 1 0 == 2), 1) else
  if op.data.toList = [97, 110, 100] ∨ op.data.toList = [111, 114] ∨ op.data.toList = [120, 111, 114] then ((ks.getD 0 0 == 1) && (ks.getD 1 0 == 1), 1) else
  if op.data.toList = [45, 62] ∨ op.data.toList = [102, 98, 121] then (ks.getD 0 0 == ks.getD 1 0, ks.getD 0 0) else
  if op.data.toList = [105, 102] then ((ks.getD 0 0 == 1) && (ks.getD 1 0 == ks.getD 2 0), ks.getD 1 0) else
  if op.data.toList = [119, 104, 101, 110] then (vk6 n nm == 1, ks.getD 0 0) else
  if op.data.toList = [109, 101, 114, 103, 101] then ((vk6 n nm == 1) && (ks.getD 0 0 == ks.getD 1 0), ks.getD 0 0) else
  if op.data.toList = [99, 97, 108, 108] then (allK6 (callee6 l nm).ins ks, (((callee6 l nm).outs.getD 0 vrZ).kind : Int)) else (true, 0)
mutual
def kind6 (l : List Nd) (n : Nd) : Ex → Nat × Nat → Int × (Nat × Nat)
  | .mk op nm _ at_ kids, b =>
    ((rule6 l n op nm (kinds6 l n kids b).1).2, if (rule6 l n op nm (kinds6 l n kids b).1).1 = true then (kinds6 l n kids b).2 else fl6 (kinds6 l n kids b).2 9 at_)
def kinds6 (l : List Nd) (n : Nd) : List Ex → Nat × Nat → List Int × (Nat × Nat)
  | [], b => ([], b)
  | e :: r, b => ((kind6 l n e b).1 :: (kinds6 l n r (kind6 l n e b).2).1, (kinds6 l n r (kind6 l n e b).2).2)
end
theorem kind6_eq (l : List Nd) (n : Nd) (e : Ex) (b : Nat × Nat) : kind6 l n e b = ((rule6 l n e.op e.name (kinds6 l n e.kids b).1).2, if (rule6 l n e.op e.name (kinds6 l n e.kids b).1).1 = true then (kinds6 l n e.kids b).2 else fl6 (kinds6 l n e.kids b).2 9 e.at_) := by
  cases e
  conv => lhs; unfold kind6
  rfl
theorem kinds6_cons (l : List Nd) (n : Nd) (e : Ex) (r : List Ex) (b : Nat × Nat) : kinds6 l n (e :: r) b = ((kind6 l n e b).1 :: (kinds6 l n r (kind6 l n e b).2).1, (kinds6 l n r (kind6 l n e b).2).2) := by
  conv => lhs; unfold kinds6
theorem kinds6_nil (l : List Nd) (n : Nd) (b : Nat × Nat) : kinds6 l n [] b = ([], b) := by unfold kinds6; rfl
theorem kinds6_len (l : List Nd) (n : Nd) : ∀ (r : List Ex) (b : Nat × Nat), (kinds6 l n r b).1.length = r.length
  | [], b => by rw [kinds6_nil]; rfl
  | e :: r, b => by rw [kinds6_cons]; simp [kinds6_len l n r]
def need6 (op : List UInt8) : Nat :=
  if op = [110, 111, 116] ∨ op = [110, 101, 103] ∨ op = [112, 114, 101] ∨ op = [119, 104, 101, 110] then 1 else
  if op = [105, 102] then 3 else
  if op = [105, 110, 116] ∨ op = [98, 111, 111, 108] ∨ op = [118, 97, 114] ∨ op = [99, 97, 108, 108] then 0 else 2
def called6 (l : List Nd) (nm : ByteArray) (kl : Nat) : Prop := ∃ k, ∃ h : k < l.length, nodeOf6 nm.data.toList l 0 = some k ∧ kl ≤ l[k].ins.length ∧ 1 ≤ l[k].outs.length
mutual
def wk6 (l : List Nd) : Ex → Prop
  | .mk op nm _ _ kids => need6 op.data.toList ≤ kids.length ∧ (op.data.toList = [99, 97, 108, 108] → called6 l nm kids.length) ∧ wks6 l kids
def wks6 (l : List Nd) : List Ex → Prop
  | [] => True
  | e :: r => wk6 l e ∧ wks6 l r
end
theorem wk6_eq (l : List Nd) (e : Ex) : wk6 l e = (need6 e.op.data.toList ≤ e.kids.length ∧ (e.op.data.toList = [99, 97, 108, 108] → called6 l e.name e.kids.length) ∧ wks6 l e.kids) := by
  cases e
  conv => lhs; unfold wk6
  rfl
theorem wks6_at {l : List Nd} : ∀ (r : List Ex) (i : Nat) (h : i < r.length), wks6 l r → wk6 l r[i]
  | [], _, h, _ => absurd h (by simp)
  | e :: r, i, h, k => by
    unfold wks6 at k
    cases i with
    | zero => exact k.1
    | succ i => exact wks6_at r i (by simpa using h) k.2
structure Gr2 (g : Nat) (r : Option Nat) (w w' : World) : Prop where
  os : w'.os = w.os
  tape : w'.tape = w.tape
  output : w'.output = w.output
  size : w.heap.size ≤ w'.heap.size
  block : ∀ k, k < w.heap.size → k ≠ g → some k ≠ r → w'.heap[k]? = w.heap[k]?
theorem Gr2.trans {g : Nat} {r : Option Nat} {a b c : World} (h1 : Gr2 g r a b) (h2 : Gr2 g r b c) : Gr2 g r a c :=
  ⟨h2.os.trans h1.os, h2.tape.trans h1.tape, h2.output.trans h1.output, Nat.le_trans h1.size h2.size, fun k hk h h' => (h2.block k (Nat.lt_of_lt_of_le hk h1.size) h h').trans (h1.block k hk h h')⟩
theorem Gr2.below {g : Nat} {r : Option Nat} {w w' : World} (h : Below w.heap.size w w') : Gr2 g r w w' := ⟨h.os, h.tape, h.output, h.size, fun k hk _ _ => h.block k hk⟩
theorem Gr2.left {g : Nat} {r : Option Nat} {w w' : World} (h : w.grownBy w' (some g)) : Gr2 g r w w' := ⟨h.os, h.tape, h.output, h.size, fun k hk h1 _ => h.block k hk (fun e => h1 (by injection e))⟩
theorem Gr2.right {g : Nat} {r : Option Nat} {w w' : World} (h : w.grownBy w' r) : Gr2 g r w w' := ⟨h.os, h.tape, h.output, h.size, fun k hk _ h2 => h.block k hk h2⟩
theorem Fg.two {w0 w w' : World} {g : Nat} {r : Option Nat} {bl : List (Nat × TypeId × Array Value)} (h : Fg w0 g bl w) (hg : Gr2 g r w w') (hr : ∀ k, r = some k → w0.heap.size ≤ k ∧ ∀ x ∈ bl, k ≠ x.1) : Fg w0 g bl w' :=
  ⟨⟨hg.os.trans h.grown.os, hg.tape.trans h.grown.tape, hg.output.trans h.grown.output, Nat.le_trans h.grown.size hg.size, fun k hk hne => (hg.block k (Nat.lt_of_lt_of_le hk h.grown.size) (fun e => hne (by rw [e])) (fun e => by have := (hr k e.symm).1; omega)).trans (h.grown.block k hk hne)⟩,
   h.low, fun x hx => ⟨(hg.block x.1 (h.lt x hx) (fun e => by have := (h.blk x hx).2; have := h.low; omega) (fun e => (hr x.1 e.symm).2 x hx rfl)).trans (h.blk x hx).1, (h.blk x hx).2⟩, h.srt⟩
theorem IsD.two {ok : Nat → Prop} {w w' : World} {g : Nat} {r : Option Nat} (hg : Gr2 g r w w') (hgk : ¬ ok g) (hr : ∀ k, r = some k → ¬ ok k) {u : Value} {d : Dt} (h : IsD ok w u d) : IsD ok w' u d :=
  IsD.keep hg.size (fun k hk hl => hg.block k hl (fun e => hgk (e ▸ hk)) (fun e => hr k e.symm hk)) (fun _ hk _ => hk) d h
def RK (gc : Nat) (r : Option Nat) (i : Nat) (W W' : World) : Prop := if i = 9 then W.grownBy W' (some gc) else if i = 11 then W.grownBy W' r else Below W.heap.size W W'
theorem RK.rel {gc : Nat} {r : Option Nat} {i : Nat} {W W' : World} (h : RK gc r i W W') : Gr2 gc r W W' := by
  unfold RK at h
  split at h
  · exact .left h
  · split at h
    · exact .right h
    · exact .below h
theorem RK.below {gc : Nat} {r : Option Nat} {i : Nat} {W W' : World} (h : Below W.heap.size W W') : RK gc r i W W' := by
  unfold RK
  split
  · exact ⟨h.os, h.tape, h.output, h.size, fun k hk _ => h.block k hk⟩
  · split
    · exact ⟨h.os, h.tape, h.output, h.size, fun k hk _ => h.block k hk⟩
    · exact h
theorem RK.nine {gc : Nat} {r : Option Nat} {W W' : World} (h : W.grownBy W' (some gc)) : RK gc r 9 W W' := by unfold RK; rw [if_pos rfl]; exact h
theorem RK.eleven {gc : Nat} {r : Option Nat} {W W' : World} (h : W.grownBy W' r) : RK gc r 11 W W' := by unfold RK; rw [if_neg (by decide), if_pos rfl]; exact h
theorem RK.ck {gc : Nat} {r : Option Nat} {i : Nat} {W W' : World} {B : Nat × Nat} (hr : r ≠ some gc) (hi : i ≠ 9) (hc : Ck6 W gc B) (h : RK gc r i W W') : Ck6 W' gc B := by
  unfold RK at h
  rw [if_neg hi] at h
  split at h
  · exact (h.block gc hc.lt (Ne.symm hr)).trans hc
  · exact hc.below h
theorem RK.own {gc : Nat} {r : Option Nat} {i : Nat} {W W' : World} {T : TypeId} {b : Nat} {V : Value} {n : Nat} {ds : List Dt} (hb : gc ≤ b) (hi : i ≠ 11) (ho : OwnD T 1 W b V n ds) (h : RK gc r i W W') : OwnD T 1 W' b V n ds := by
  unfold RK at h
  split at h
  · exact ho.kept h (fun k hk => by injection hk with hk; omega)
  · exact ho.below h
def FK (gc : Nat) (B : Nat × Nat) (b : Nat) (V : Value) (ks : List Int) (j : Nat) (W : World) : Prop := b + 1 ≤ W.heap.size ∧ (j = 9 → Ck6 W gc B) ∧ (j = 11 → OwnD 3 1 W b V ks.length (ksD ks))
theorem FK.keep {gc : Nat} {B : Nat × Nat} {b : Nat} {V : Value} {ks : List Int} (hb : gc ≤ b) (hr : V.ownBlock ≠ some gc) (i j : Nat) (W W' : World) (hne : j ≠ i) (h : FK gc B b V ks j W) (hR : RK gc V.ownBlock i W W') : FK gc B b V ks j W' :=
  ⟨Nat.le_trans h.1 hR.rel.size, fun hj => RK.ck hr (by omega) (h.2.1 hj) hR, fun hj => RK.own hb (by omega) (h.2.2 hj) hR⟩
def wKd (gc : Nat) (k : Int) (B : Nat × Nat) (v : Value) (W : World) : Prop := v = .int .i64 k ∧ Ck6 W gc B
def wKs (b0 : Nat) (k : Int) (v : Value) (W : World) : Prop := ∃ g, v = .slice (some ⟨g, 0, none⟩) 1 1 ∧ b0 ≤ g ∧ W.heap[g]? = some (.cells #[.int .i64 k] 3 (0, 0))
def wKo (b : Nat) (ks : List Int) (v : Value) (W : World) : Prop := OwnD 3 1 W b v ks.length (ksD ks)
theorem wKs.keep {gc b0 : Nat} {r : Option Nat} {i : Nat} {k : Int} {v : Value} {W W' : World} (hg : gc < b0) (hr : ∀ j, r = some j → j < b0) (h : wKs b0 k v W) (hR : RK gc r i W W') : wKs b0 k v W' := by
  obtain ⟨g, h1, h2, h3⟩ := h
  exact ⟨g, h1, h2, (hR.rel.block g (Array.getElem?_eq_some_iff.1 h3).1 (by omega) (fun e => by have := hr g e.symm; omega)).trans h3⟩
theorem app_oneK {o : Oper} {ρ : Operand → Value} {s x : Operand} (ho : o.op = .call { callee := .builtin .append, args := #[s, x], argTypes := #[130, 130] }) {w : World} {b : Nat} {V : Value} {ks : List Int} {k : Int} {b0 : Nat} {v : Value} (hs : ρ s = V) (hx : ρ x = v) (hA : OwnD 3 1 w b V ks.length (ksD ks)) (hbw : b + 1 ≤ w.heap.size) (hv : wKs b0 k v w) (hn : ks.length + 1 ≤ 100000000000) :
    ∃ v' w', (execOp ρ o).run Try.prog w = .ok (.value v') w' ∧ wKo b (ks ++ [k]) v' w' ∧ w.grownBy w' V.ownBlock := by
  obtain ⟨i, hi, ⟨z, hz, hzs⟩, hsize, hby⟩ := info_intC
  obtain ⟨g, rfl, hg, hc⟩ := hv
  obtain ⟨v', w', hrun, h1, h2, h3⟩ := hA.append (P := Try.prog) (ok := fun _ => False) 130 o.type i z 8 Try.underlying130 hi hz hsize hby hzs (by decide) (by decide) hbw g 0 1 1 [.int .i64 k] (ksD [k]) rfl ⟨by unfold IsD; rfl, trivial⟩ (fun j u hj => by
    have hlt : j < 1 := by have := (List.getElem?_eq_some_iff.1 hj).1; simpa using this
    obtain rfl : j = 0 := by omega
    rw [cell_of_row w g 0 _ _ _ hc]
    exact hj) (kd_one k) (fun k hk => hk.elim) hn
  refine ⟨v', w', ?_, ?_, h2⟩
  · simp [execOp, ho, resolve, invoke, builtin, hs, hx, hrun, Result.andThen]
  · unfold wKo
    rw [← ksD_snoc, List.length_append]; exact h1
def GivesKd (gc : Nat) (r : Int × (Nat × Nat)) (w : World) (e : Ending) (w' : World) : Prop := e = .returned (.int .i64 r.1) ∧ Ck6 w' gc r.2 ∧ w.grownBy w' (some gc)
end Go.Proofs.Ytejljfoacbpliaa

namespace Go.Proofs.Ytejljfoacbpliaa
open Go Go.RowKit
theorem run_enter4 {P : Program} {o : Oper} {ρ : Operand → Value} {f : FuncId} {x y z u : Operand} {ts : Array TypeId} {W : World} (ho : o.op = .call { callee := .value (.func f), args := #[x, y, z, u], argTypes := ts }) (hf : ρ (.func f) = .func (.func f) #[] #[]) (hcf : ∀ (args : Array Value) (w : World), (callFunc f args).run P w = .ok (.enter f args) w) :
    (execOp ρ o).run P W = .ok (.enter f #[ρ x, ρ y, ρ z, ρ u]) W := by
  simp [execOp, ho, resolve, hf, invoke, Deferred.ofValue, hcf]
theorem ks_cell {w : World} {b : Nat} {x : Option Addr} {n c : Nat} {ks : List Int} (h : OwnD 3 1 w b (.slice x n c) n (ksD ks)) (hl : ks.length = n) (hn : 0 < n) : ∃ g, x = some ⟨g, 0, none⟩ ∧ ∀ i, i < n → w.cell? ⟨g, i, none⟩ = some (.int .i64 (ks.getD i 0)) := by
  obtain ⟨xs, h1, h2⟩ := h
  have hx : xs = ks.map (Value.int .i64) := by
    clear h1 hl
    revert ks
    induction xs with
    | nil =>
      intro l h2
      cases l with
      | nil => rfl
      | cons a r => exact h2.elim
    | cons u r ih =>
      intro l h2
      cases l with
      | nil => exact h2.elim
      | cons a r' =>
        obtain ⟨h3, h4⟩ := h2
        unfold IsD at h3
        rw [h3, ih h4]; rfl
  subst hx
  rcases h1.2 with ⟨e, h0⟩ | ⟨g, cap, cur, e, hbg, hg, hnn, hc, hcs, ht⟩
  · omega
  · injection e with e1 e2 e3
    subst e1
    refine ⟨g, rfl, fun i hi => ?_⟩
    have := h1.cells (g := g) rfl i (.int .i64 (ks.getD i 0)) (by simp [List.getD, show i < ks.length by omega])
    rw [Addr.add_lit] at this
    simpa using this
set_option maxHeartbeats 4000000 in
set_option maxRecDepth 100000 in
theorem kind6_lt (l : List Nd) (n : Nd) (hl : (vars6 n).length ≤ 1000000) (xa : Option Addr) (ca : Nat) (xi xo xl xe : Option Addr) (ci co cl ce : Nat) (d : Nat) : ∀ (e : Ex), SizeOf.sizeOf e < d → okE e = true → wk6 l e → ∀ (okA okN okK : Nat → Prop) (w : World) (gc : Nat) (b : Nat × Nat), ¬ okA gc → ¬ okN gc → ¬ okK gc → Ck6 w gc b → ∀ (x : Option Addr) (c : Nat), KidsD okK w e x c → IsD okA w (.slice xa l.length ca) (.sl l.length (ndsD l)) → NdIn okN w n xi xo xl xe ci co cl ce →
    Calls Try.prog 51 #[.pointer (some ⟨gc, 0, none⟩), .slice xa l.length ca, ndV n xi xo xl xe ci co cl ce, exV e x c] w (GivesKd gc (kind6 l n e b) w) := by
  induction d with
  | zero => intro e h; omega
  | succ d ih =>
    intro e hd hoe hwk okA okN okK w gc b hgA hgN hgK hc x c hkk0 hA0 hN0
    have hkk : KidsD (fun k => k < w.heap.size ∧ k ≠ gc) w e x c := IsD.mono (fun k hk hl => ⟨hl, fun e => hgK (e ▸ hk)⟩) hkk0
    have hA : IsD (fun k => k < w.heap.size ∧ k ≠ gc) w (.slice xa l.length ca) (.sl l.length (ndsD l)) := IsD.mono (fun k hk hl => ⟨hl, fun e => hgA (e ▸ hk)⟩) hA0
    have hN : NdIn (fun k => k < w.heap.size ∧ k ≠ gc) w n xi xo xl xe ci co cl ce := ⟨IsD.mono (fun k hk hl => ⟨hl, fun e => hgN (e ▸ hk)⟩) hN0.1, IsD.mono (fun k hk hl => ⟨hl, fun e => hgN (e ▸ hk)⟩) hN0.2.1, IsD.mono (fun k hk hl => ⟨hl, fun e => hgN (e ▸ hk)⟩) hN0.2.2.1, IsD.mono (fun k hk hl => ⟨hl, fun e => hgN (e ▸ hk)⟩) hN0.2.2.2⟩
    have hoe' := hoe
    rw [okE_eq] at hoe'
    simp only [Bool.and_eq_true] at hoe'
    have hkids := hoe'.2.2
    have HOP := Lib.hid hoe'.1
    have HNM := Lib.hid (okNm_le hoe'.2.1)
    rw [wk6_eq] at hwk
    have HWK := Lib.hid hwk
    have hnok : ¬ (fun k => k < w.heap.size ∧ k ≠ gc) gc := fun h => h.2 rfl
    have IH := Lib.hid (fun (i : Nat) (hi : i < e.kids.length) (W : World) (b' : Nat × Nat) (hC : Ck6 W gc b') (x : Option Addr) (c : Nat) (hK : KidsD (fun k => k < w.heap.size ∧ k ≠ gc) W e.kids[i] x c) (hA' : IsD (fun k => k < w.heap.size ∧ k ≠ gc) W (.slice xa l.length ca) (.sl l.length (ndsD l))) (hN' : NdIn (fun k => k < w.heap.size ∧ k ≠ gc) W n xi xo xl xe ci co cl ce) => ih e.kids[i] (by have := kid_less hi; omega) (okEs_at _ i hi hkids) (wks6_at _ i hi hwk.2.2) _ _ _ W gc b' hnok hnok hnok hC x c hK hA' hN')
    have HKK := Lib.hid hkk
    have HKA := Lib.hid hA
    have HKN := Lib.hid hN
    have HNK := Lib.hid hnok
    have HGC := Lib.hid hc.lt
    have HSN := Lib.hid size_n4
    have HSE := Lib.hid size_e4
    have HSV := Lib.hid size_v4
    have HFEW := Lib.hid (IsD.few hkk)
    have HLV := Lib.hid hl
    have F0 := ((Fx.start w).alloc w.heap.size rfl 38 #[.string n.name, .slice xi n.ins.length ci, .slice xo n.outs.length co, .slice xl n.locs.length cl, .slice xe n.eqs.length ce, .int .i64 (n.at_ : Int)]).alloc (w.heap.size + 1) (by simp) 53 #[.string e.op, .string e.name, .int .i64 e.n, .int .i64 (e.at_ : Int), .slice x e.kids.length c]
    obtain ⟨R, hR⟩ : ∃ R, R = kind6 l n e b := ⟨_, rfl⟩
    rw [← hR]
    rw [kind6_eq] at hR
    obtain ⟨Q, hQ⟩ : ∃ Q, Q = kinds6 l n e.kids b := ⟨_, rfl⟩
    rw [← hQ] at hR
    have HR := Lib.hid hR
    obtain ⟨W0, hW0⟩ : ∃ W0, W0 = ((w.alloc (.cells #[.string n.name, .slice xi n.ins.length ci, .slice xo n.outs.length co, .slice xl n.locs.length cl, .slice xe n.eqs.length ce, .int .i64 (n.at_ : Int)] 38)).alloc (.cells #[.string e.op, .string e.name, .int .i64 e.n, .int .i64 (e.at_ : Int), .slice x e.kids.length c] 53)) := ⟨_, rfl⟩
    rw [← hW0] at F0
    have HG : Hid (Fg w gc [(w.heap.size, 38, #[.string n.name, .slice xi n.ins.length ci, .slice xo n.outs.length co, .slice xl n.locs.length cl, .slice xe n.eqs.length ce, .int .i64 (n.at_ : Int)]), (w.heap.size + 1, 53, #[.string e.op, .string e.name, .int .i64 e.n, .int .i64 (e.at_ : Int), .slice x e.kids.length c])] W0) := Lib.hid (Fg.of F0 hc.lt)
    have HC := Lib.hid (hc.below F0.below)
    have HB0 := Lib.hid F0.below
    have HQ0 := Lib.hid hQ
    have c4 := cell_of_row W0 (w.heap.size + 1) 4 _ _ _ (F0.get 1 rfl)
    rw [hW0] at c4
    have HW0 := Lib.hid hW0
    clear ih hd hoe hoe' hwk hkids hkk hA hN hkk0 hA0 hN0 hgA hgN hgK hnok hc F0 hW0 hl hR hQ
    unfold ndV exV
    go_enter Try.func51, Try.ntmps51
    go_upto_region 3 with fail
    rw [← HW0.out] at c4 ⊢
    go_wp2_with fail
    go_loopw [9, 10] (fun v9 v10 wr => ∃ (V : Value) (i : Nat) (ks : List Int) (B : Nat × Nat), V = v9 ∧ v10 = .int .i64 (i : Int) ∧ i ≤ e.kids.length ∧ ks.length = i ∧ Fg w gc [(w.heap.size, 38, #[.string n.name, .slice xi n.ins.length ci, .slice xo n.outs.length co, .slice xl n.locs.length cl, .slice xe n.eqs.length ce, .int .i64 (n.at_ : Int)]), (w.heap.size + 1, 53, #[.string e.op, .string e.name, .int .i64 e.n, .int .i64 (e.at_ : Int), .slice x e.kids.length c])] wr ∧ Ck6 wr gc B ∧ OwnD 3 1 wr (w.heap.size + 1) V i (ksD ks) ∧ Q = (ks ++ (kinds6 l n (e.kids.drop i) B).1, (kinds6 l n (e.kids.drop i) B).2))
      (fun _ v10 _ => e.kids.length - (intOf v10).toNat)
    case atStart => exact ⟨_, 0, [], b, rfl, rfl, Nat.zero_le _, rfl, HG.out, HC.out, OwnD.nil _ _ _ _, by rw [List.drop_zero]; exact HQ0.out⟩
    case round =>
      clear HG HC c4
      obtain ⟨V, i, ks, B, rfl, rfl, hi, hks, hG, hC, hO, hq⟩ := hrel
      obtain ⟨xv, cv, rfl, _, _⟩ := hO.slice
      have HG := Lib.hid hG
      have HC := Lib.hid hC
      have HO := Lib.hid hO
      have HI := Lib.hid hi
      have HKL := Lib.hid hks
      have c4 := cell_of_row wr (w.heap.size + 1) 4 _ _ _ (hG.get 1 rfl)
      clear hG hC hO hi hks
      by_cases hil : i < e.kids.length
      · have d1 : decide ((i : Int) < (e.kids.length : Int)) = true := by simp; omega
        have HIL := Lib.hid hil
        rw [List.drop_eq_getElem_cons hil, kinds6_cons] at hq
        have hkw := IsD.grown HG.out.grown (fun k hk => by injection hk with hk; subst hk; exact HNK.out) HKK.out
        obtain ⟨gx, hgx, hokx, _, _⟩ := IsD.some_ HKK.out (by omega)
        obtain ⟨g1, rfl, hg1, xk, ck, hrg, hkk⟩ := KidsD.at_ hkw i hil
        obtain rfl : g1 = gx := by injection hgx with hgx; injection hgx with hgx
        have ih := IH.out i hil
        obtain ⟨ek, hek⟩ : ∃ ek, ek = e.kids[i]'HIL.out := ⟨_, rfl⟩
        rw [← hek] at hrg hkk ih hq
        have hAw := IsD.grown HG.out.grown (fun k hk => by injection hk with hk; subst hk; exact HNK.out) HKA.out
        have hNw := NdIn.grown6 HG.out.grown (fun k hk => by injection hk with hk; subst hk; exact HNK.out) HKN.out
        obtain ⟨RK1, hRK1⟩ : ∃ RK1, RK1 = kind6 l n ek B := ⟨_, rfl⟩
        rw [← hRK1] at hq
        have HRK1 := Lib.hid hRK1
        obtain ⟨kd, B2⟩ := RK1
        simp only at hq
        have HQ := Lib.hid hq
        have HIH := Lib.hid ih
        have HHK := Lib.hid hkk
        have HRG := Lib.hid hrg
        have HAW := Lib.hid hAw
        have HNW := Lib.hid hNw
        have HG1 := Lib.hid hg1
        have HOX := Lib.hid hokx
        have hgV : ∀ k, (Value.slice xv i cv).ownBlock = some k → w.heap.size + 1 < k ∧ k < wr.heap.size := fun k hk => HO.out.gt k hk
        have HGV := Lib.hid hgV
        have HNV := Lib.hid (show (Value.slice xv i cv).ownBlock ≠ some gc from fun e => by have := (hgV _ e).1; have := HGC.out; omega)
        have hgb : gc ≤ w.heap.size + 1 := by have := HGC.out; omega
        have HGB := Lib.hid hgb
        have HBW := Lib.hid (show w.heap.size + 1 + 1 ≤ wr.heap.size from HG.out.lt_ 1 rfl)
        have HI0 := Lib.hid (show i + 1 ≤ 100000000000 by have := HFEW.out; omega)
        have hO2 : OwnD 3 1 wr (w.heap.size + 1) (.slice xv i cv) ks.length (ksD ks) := by rw [HKL.out]; exact HO.out
        have HO2 := Lib.hid hO2
        clear hil hkw hgx hokx hg1 hrg hkk ih hek hAw hNw hRK1 hq hgV hgb hO2
        go_wp2_with fail
        --
        refine wp_region_stepsM_then (words [wIs (.slice xv i cv), wIs (.pointer (some ⟨gc, 0, none⟩)), wIs (.slice xa l.length ca), wIs (.agg #[.string n.name, .slice xi n.ins.length ci, .slice xo n.outs.length co, .slice xl n.locs.length cl, .slice xe n.eqs.length ce, .int .i64 (n.at_ : Int)]), wIs (.pointer (some ⟨w.heap.size + 1, 4, none⟩)), wIs (.slice (some ⟨g1, 0, none⟩) e.kids.length c), wIs (.int .i64 (i : Int)), wIs (.pointer (some ⟨g1, i * 5, none⟩)), wIs (.agg (exC ek xk ck).toArray), wKd gc kd B2, wKs wr.heap.size kd, wKo (w.heap.size + 1) (ks ++ [kd])]) (Gr2 gc (Value.slice xv i cv).ownBlock) (RK gc (Value.slice xv i cv).ownBlock) (FK gc B (w.heap.size + 1) (.slice xv i cv) ks) (by kernel_rfl) (fun _ _ _ h1 h2 => h1.trans h2) (fun i X X' h => h.rel) (fun i j X X' hne h hr => FK.keep HGB.out HNV.out i j X X' hne h hr) (Gr2.below (Below.refl _ _).drew) (fun i => ⟨Nat.le_trans HBW.out (Below.refl wr.heap.size wr).drew.size, fun _ => HC.out.below (Below.refl _ _).drew, fun _ => HO2.out.below (Below.refl _ _).drew⟩) ?hst rfl rfl rfl (by kernel_rfl) 12 _ rfl rfl ?steps ?last
        case hst =>
          intro i' j' v X X' hne hv hr
          match j', hne, hv with
          | 0, _, hv => exact hv
          | 1, _, hv => exact hv
          | 2, _, hv => exact hv
          | 3, _, hv => exact hv
          | 4, _, hv => exact hv
          | 5, _, hv => exact hv
          | 6, _, hv => exact hv
          | 7, _, hv => exact hv
          | 8, _, hv => exact hv
          | 9, hne, hv => exact ⟨hv.1, RK.ck HNV.out (Ne.symm hne) hv.2 hr⟩
          | 10, _, hv => exact wKs.keep (by have := HGC.out; have := HBW.out; omega) (fun k hk => (HGV.out k hk).2) hv hr
          | 11, hne, hv => exact RK.own HGB.out (Ne.symm hne) hv hr
          | _ + 12, _, _ => trivial
        case steps =>
          refine StepsM.cons (stepM_value rfl fun a W hp _ => ⟨wanted_none rfl, _, _, run_move (.inl rfl), hp.old 9 rfl, RK.below (Below.refl _ _)⟩) ?_
          refine StepsM.cons (stepM_value rfl fun a W hp _ => ⟨wanted_none rfl, _, _, run_move (.inl rfl), hp.old 0 rfl, RK.below (Below.refl _ _)⟩) ?_
          refine StepsM.cons (stepM_value rfl fun a W hp _ => ⟨wanted_none rfl, _, _, run_move (.inl rfl), hp.old 1 rfl, RK.below (Below.refl _ _)⟩) ?_
          refine StepsM.cons (stepM_value rfl fun a W hp _ => ?_) ?_
          · have f1 : a.tmps.getD 6 undef = .pointer (some ⟨w.heap.size, 0, none⟩) := hp.old 6 rfl
            have hnb : W.heap[w.heap.size]? = some (.cells #[.string n.name, .slice xi n.ins.length ci, .slice xo n.outs.length co, .slice xl n.locs.length cl, .slice xe n.eqs.length ce, .int .i64 (n.at_ : Int)] 38 (0, 0)) := (hp.rel.block w.heap.size (HG.out.lt_ 0 rfl) (by have := HGC.out; omega) (fun e => by have := (HGV.out _ e.symm).1; omega)).trans (HG.out.get 0 rfl)
            exact ⟨wanted_none rfl, _, _, run_ldrow rfl f1 hnb Try.underlying38 rfl HSN.out, rfl, RK.below (Below.refl _ _)⟩
          refine StepsM.cons (stepM_value rfl fun a W hp _ => ?_) ?_
          · have f1 : a.tmps.getD 7 undef = .pointer (some ⟨w.heap.size + 1, 0, none⟩) := hp.old 7 rfl
            have f2 : (Instr.fieldAt 53 (.pointer (some ⟨w.heap.size + 1, 0, none⟩)) 4).run Try.prog W = .ok (.pointer (some ⟨w.heap.size + 1, 4, none⟩)) W := by kernel_rfl
            exact ⟨wanted_none rfl, _, _, run_fa4 rfl f1 f2, rfl, RK.below (Below.refl _ _)⟩
          refine StepsM.cons (stepM_value rfl fun a W hp _ => ?_) ?_
          · have f1 : a.tmps.getD 32 undef = .pointer (some ⟨w.heap.size + 1, 4, none⟩) := (hp.on_ 4 rfl rfl rfl).2
            have heb : W.heap[w.heap.size + 1]? = some (.cells #[.string e.op, .string e.name, .int .i64 e.n, .int .i64 (e.at_ : Int), .slice (some ⟨g1, 0, none⟩) e.kids.length c] 53 (0, 0)) := (hp.rel.block (w.heap.size + 1) (HG.out.lt_ 1 rfl) (by have := HGC.out; omega) (fun e => by have := (HGV.out _ e.symm).1; omega)).trans (HG.out.get 1 rfl)
            exact ⟨wanted_none rfl, _, _, run_ldv rfl f1 (cell_of_row W (w.heap.size + 1) 4 _ _ _ heb) Try.underlying51 rfl (by kernel_rfl), rfl, RK.below (Below.refl _ _)⟩
          refine StepsM.cons (stepM_value rfl fun a W hp _ => ⟨wanted_none rfl, _, _, run_move (.inl rfl), hp.old 10 rfl, RK.below (Below.refl _ _)⟩) ?_
          refine StepsM.cons (stepM_value rfl fun a W hp _ => ?_) ?_
          · have f1 : a.tmps.getD 33 undef = .slice (some ⟨g1, 0, none⟩) e.kids.length c := (hp.on_ 5 rfl rfl rfl).2
            have f2 : a.tmps.getD 34 undef = .int .i64 (i : Int) := (hp.on_ 6 rfl rfl rfl).2
            exact ⟨wanted_none rfl, _, _, run_idxG Try.underlying51 HSE.out rfl f1 f2 HIL.out, rfl, RK.below (Below.refl _ _)⟩
          refine StepsM.cons (stepM_value rfl fun a W hp _ => ?_) ?_
          · have f1 : a.tmps.getD 35 undef = .pointer (some ⟨g1, i * 5, none⟩) := (hp.on_ 7 rfl rfl rfl).2
            have hb1 : W.heap[g1]? = wr.heap[g1]? := hp.rel.block g1 HG1.out HOX.out.2 (fun e => by have := (HGV.out _ e.symm).1; have := HOX.out.1; omega)
            exact ⟨wanted_none rfl, _, _, run_ldmidG rfl f1 (fun j v hj => (World.cell?_of_block hb1).trans (HRG.out j v hj)) rfl Try.underlying53 HSE.out, rfl, RK.below (Below.refl _ _)⟩
          refine StepsM.cons (stepM_enter rfl fun a W hp hF => ?_) ?_
          · have f1 : a.tmps.getD 29 undef = .pointer (some ⟨gc, 0, none⟩) := (hp.on_ 1 rfl rfl rfl).2
            have f2 : a.tmps.getD 30 undef = .slice xa l.length ca := (hp.on_ 2 rfl rfl rfl).2
            have f3 : a.tmps.getD 31 undef = .agg #[.string n.name, .slice xi n.ins.length ci, .slice xo n.outs.length co, .slice xl n.locs.length cl, .slice xe n.eqs.length ce, .int .i64 (n.at_ : Int)] := (hp.on_ 3 rfl rfl rfl).2
            have f4 : a.tmps.getD 36 undef = .agg (exC ek xk ck).toArray := (hp.on_ 8 rfl rfl rfl).2
            refine ⟨wanted_none rfl, 51, _, run_enter4 rfl rfl Try.call51, ?_⟩
            show Calls _ _ #[a.tmps.getD 29 undef, a.tmps.getD 30 undef, a.tmps.getD 31 undef, a.tmps.getD 36 undef] W _
            rw [f1, f2, f3, f4]
            have hro : ∀ k, (Value.slice xv i cv).ownBlock = some k → ¬ (fun k => k < w.heap.size ∧ k ≠ gc) k := fun k hk h => by have := (HGV.out k hk).1; have := h.1; omega
            have kk := HIH.out W B (hF.2.1 rfl) xk ck (IsD.two hp.rel HNK.out hro HHK.out) (IsD.two hp.rel HNK.out hro HAW.out) ⟨IsD.two hp.rel HNK.out hro HNW.out.1, IsD.two hp.rel HNK.out hro HNW.out.2.1, IsD.two hp.rel HNK.out hro HNW.out.2.2.1, IsD.two hp.rel HNK.out hro HNW.out.2.2.2⟩
            rw [← HRK1.out] at kk
            refine Calls.mono kk ?_
            rintro e9 W' ⟨h1, h2, h3⟩
            exact ⟨_, h1, ⟨rfl, h2⟩, RK.nine h3⟩
          refine StepsM.cons (stepM_value rfl fun a W hp _ => ?_) ?_
          · have f1 : a.tmps.getD 37 undef = .int .i64 kd := (hp.on_ 9 rfl rfl rfl).2.1
            refine ⟨wanted_none rfl, _, _, run_bsl1 rfl ?_, ⟨W.heap.size, rfl, hp.rel.size, heap_alloc_new W _⟩, RK.below ((Below.refl _ _).alloc (Nat.le_refl _) _)⟩
            show (Instr.buildSlice _ 1 #[(0, a.tmps.getD 37 undef)]).run _ W = _
            rw [f1]
            exact sl_oneC kd W
          refine StepsM.cons (stepM_value rfl fun a W hp hF => ?_) ?_
          · have f1 : a.tmps.getD 28 undef = .slice xv i cv := (hp.on_ 0 rfl rfl rfl).2
            have f2 : wKs wr.heap.size kd (a.tmps.getD 38 undef) W := (hp.on_ 10 rfl rfl rfl).2
            exact ⟨wanted_none rfl, (app_oneK (ρ := a.eval) (s := .tmp 28) (x := .tmp 38) (v := a.tmps.getD 38 undef) (by rfl) f1 rfl (hF.2.2 rfl) hF.1 f2 (by have := HKL.out; have := HI0.out; omega)).imp fun _ h => h.imp fun _ h => ⟨h.1, h.2.1, RK.eleven h.2.2⟩⟩
          exact StepsM.nil
        case last =>
          intro a W hI
          have hO5 : wKo (w.heap.size + 1) (ks ++ [kd]) (a.tmps.getD 39 undef) W := hI.new 11 _ 39 rfl rfl rfl
          have hC5 : wKd gc kd B2 (a.tmps.getD 37 undef) W := hI.new 9 _ 37 rfl rfl rfl
          have HC5 := Lib.hid hC5.2
          have HG5 := Lib.hid (Fg.two HG.out hI.rel (fun k hk => ⟨by have := (HGV.out k hk).1; omega, fun y hy => by
            have := (HGV.out k hk).1
            simp only [List.mem_cons, List.not_mem_nil, or_false] at hy
            rcases hy with rfl | rfl
            · show k ≠ w.heap.size; omega
            · show k ≠ w.heap.size + 1; omega⟩))
          obtain ⟨fo, hfo, hx⟩ := hI.putsI [28, 29, 30, 31, 32, 33, 34, 35, 36, 37, 38, 39] rfl
          rw [hfo 39] at hO5
          unfold wKo at hO5
          rw [List.length_append, HKL.out] at hO5
          have HO5 := Lib.hid hO5
          refine wpOp_value rfl (wanted_none rfl) (run_move (.inr rfl)) ?_
          clear hI hO5 hC5 c4 hfo
          subst hx
          simp only [List.foldl_cons, List.foldl_nil]
          simp only [Act.put, List.setIfInBounds_toArray, List.set_cons_succ, List.set_cons_zero]
          simp only [Exit.inBlock, Exit.then]
          go_wp2_with fail
          refine ⟨⟨_, i + 1, ks ++ [kd], B2, rfl, wrap_succ (by have := HIL.out; have := HFEW.out; omega), HIL.out, by rw [List.length_append, HKL.out]; rfl, HG5.out, HC5.out, HO5.out, by rw [HQ.out, List.append_assoc]; rfl⟩, ?_⟩
          rw [wrap_succ (by have := HIL.out; have := HFEW.out; omega)]
          have := HIL.out
          simp [intOf]; omega
        --
      · have d1 : decide ((i : Int) < (e.kids.length : Int)) = false := by simp; omega
        obtain rfl : i = e.kids.length := by have := HI.out; omega
        rw [List.drop_length, kinds6_nil, List.append_nil] at hq
        have HQ := Lib.hid hq
        have c0 := cell_of_row wr (w.heap.size + 1) 0 _ _ _ (HG.out.get 1 rfl)
        obtain ⟨ru, hru⟩ : ∃ ru, ru = rule6 l n e.op e.name ks := ⟨_, rfl⟩
        have HRU := Lib.hid hru
        have HRR : Hid (R = (ru.2, if ru.1 = true then B else fl6 B 9 e.at_)) := Lib.hid (by rw [HR.out, hq, hru])
        obtain ⟨eo, heo⟩ : ∃ eo, eo = e.op := ⟨_, rfl⟩
        rw [← heo] at c0 ⊢
        have HEO := Lib.hid heo
        clear hil hq hru heo
        go_upto_block 2 with fail
        clear c4
        go_cut [11, 12] (fun v11 v12 wx => v11 = .bool ru.1 ∧ v12 = .int .i64 ru.2 ∧ Below wr.heap.size wr wx)
        case first =>
          have hop := HOP.out
          simp only [OPSB, List.contains_cons, List.contains_nil, Bool.or_eq_true, Bool.or_false, beq_iff_eq] at hop
          rcases hop with hop | hop | hop | hop | hop | hop | hop | hop | hop | hop | hop | hop | hop | hop | hop | hop | hop | hop | hop | hop | hop | hop | hop | hop | hop | hop
          · as_aux_lemma =>
              obtain hop := bytes_eq hop
              have HRV : Hid (ru = (true, 2)) := Lib.hid (by rw [HRU.out, hop]; kernel_rfl)
              have hop := HEO.out.trans hop
              subst hop
              clear HEO
              go_wp2_with fail
              all_goals (go_meet; exact ⟨by first | (rw [HRV.out]; done) | (rw [HRV.out]; rfl), by rw [HRV.out], by first | exact Below.refl _ _ | exact (Below.refl _ _).drew | exact below_drewN (Below.refl _ _) _⟩)
          · as_aux_lemma =>
              obtain hop := bytes_eq hop
              have HRV : Hid (ru = (true, 1)) := Lib.hid (by rw [HRU.out, hop]; kernel_rfl)
              have hop := HEO.out.trans hop
              subst hop
              clear HEO
              go_wp2_with fail
              all_goals (go_meet; exact ⟨by first | (rw [HRV.out]; done) | (rw [HRV.out]; rfl), by rw [HRV.out], by first | exact Below.refl _ _ | exact (Below.refl _ _).drew | exact below_drewN (Below.refl _ _) _⟩)
          · as_aux_lemma =>
              obtain hop := bytes_eq hop
              have HRV : Hid (ru = (true, vk6 n e.name)) := Lib.hid (by rw [HRU.out, hop]; kernel_rfl)
              have hop := HEO.out.trans hop
              subst hop
              clear HEO
              have kf := Find_any n HLV.out e.name wr _ xi xo xl xe ci co cl ce (NdIn.grown6 HG.out.grown (fun k hk => by injection hk with hk; subst hk; exact HNK.out) HKN.out)
              have HNR := Lib.hid (HG.out.get 0 rfl)
              unfold ndV GivesFv at kf
              obtain ⟨v, hvv⟩ : ∃ v, v = (find6 e.name.data.toList (vars6 n)).getD vrZ := ⟨_, rfl⟩
              have HVK : Hid (vk6 n e.name = (v.kind : Int)) := Lib.hid (by rw [hvv]; rfl)
              rw [← hvv] at kf
              obtain ⟨fs, hfs⟩ : ∃ fs, fs = (find6 e.name.data.toList (vars6 n)).isSome := ⟨_, rfl⟩
              rw [← hfs] at kf
              unfold vrA at kf
              have c1 := cell_of_row wr (w.heap.size + 1) 1 _ _ _ (HG.out.get 1 rfl)
              clear hvv hfs
              go_wp2_with (refine wpList_load_row rfl 38 (.tmp 6) rfl w.heap.size rfl 38 #[.string n.name, .slice xi n.ins.length ci, .slice xo n.outs.length co, .slice xl n.locs.length cl, .slice xe n.eqs.length ce, .int .i64 (n.at_ : Int)] (0, 0) _ ?_ Try.underlying38 rfl HSN.out ?_; (exact HNR.out))
              (with_reducible refine kf.mono ?_)
              rintro e9 w1 ⟨rfl, hb⟩
              obtain ⟨hnb, hnr⟩ := new_row w1 62 #[.string ⟨#[]⟩, .int .i64 0, .string ⟨#[]⟩, .bool false, .int .i64 0] #[.string v.name, .int .i64 (v.kind : Int), .string v.on, .bool v.not_, .int .i64 (v.at_ : Int)]
              have HAL := Lib.hid (heap_alloc_new w1 (.cells #[.string ⟨#[]⟩, .int .i64 0, .string ⟨#[]⟩, .bool false, .int .i64 0] 62))
              have HBX := Lib.hid (hb.trans (hnb.mono hb.size))
              obtain ⟨WX, hWX⟩ : ∃ WX, WX = ((w1.alloc (.cells #[.string ⟨#[]⟩, .int .i64 0, .string ⟨#[]⟩, .bool false, .int .i64 0] 62)).setRow w1.heap.size #[.string v.name, .int .i64 (v.kind : Int), .string v.on, .bool v.not_, .int .i64 (v.at_ : Int)]) := ⟨_, rfl⟩
              rw [← hWX] at HBX hnr
              have HNX := Lib.hid hnr
              clear kf hb hnb hnr c1
              go_upto_region 14 with (refine wpList_store_row rfl 62 (.tmp 13) (.tmp 53) rfl w1.heap.size #[.string v.name, .int .i64 (v.kind : Int), .string v.on, .bool v.not_, .int .i64 (v.at_ : Int)] rfl rfl 62 #[.string ⟨#[]⟩, .int .i64 0, .string ⟨#[]⟩, .bool false, .int .i64 0] ?_ HSV.out rfl (v6_one _ _ _ _ _) ?_; (exact HAL.out))
              rw [← hWX]
              have c2 := cell_of_row WX w1.heap.size 1 _ _ _ HNX.out
              clear hWX
              go_wp2_with fail
              all_goals (go_meet; exact ⟨by first | (rw [HRV.out]; done) | (rw [HRV.out]; rfl), by rw [HRV.out, HVK.out], by first | exact HBX.out | exact HBX.out.drew | exact below_drewN HBX.out _⟩)
          · as_aux_lemma =>
              obtain hop := bytes_eq hop
              have HRV : Hid (ru = (ks.getD 0 0 == 1, 1)) := Lib.hid (by rw [HRU.out, hop]; kernel_rfl)
              have hn : 1 ≤ e.kids.length := by have := HWK.out.1; rw [hop] at this; exact this
              obtain ⟨gk, rfl, hcell⟩ := ks_cell HO.out (by rw [HKL.out]) (by omega)
              have q0 := hcell 0 (by omega)
              obtain ⟨k0, hk0⟩ : ∃ k, k = ks.getD 0 0 := ⟨_, rfl⟩
              rw [← hk0] at q0 HRV
              have b0 : ((0 : Nat) : Int) < (e.kids.length : Int) := by omega
              have HN0 := Lib.hid hn
              clear hcell hn hk0
              have hop := HEO.out.trans hop
              subst hop
              clear HEO
              go_wp2_with fail
              all_goals (go_meet; exact ⟨by first | (rw [HRV.out]; done) | (rw [HRV.out]; rfl), by rw [HRV.out], by first | exact Below.refl _ _ | exact (Below.refl _ _).drew | exact below_drewN (Below.refl _ _) _⟩)
          · as_aux_lemma =>
              obtain hop := bytes_eq hop
              have HRV : Hid (ru = (ks.getD 0 0 == 2, 2)) := Lib.hid (by rw [HRU.out, hop]; kernel_rfl)
              have hn : 1 ≤ e.kids.length := by have := HWK.out.1; rw [hop] at this; exact this
              obtain ⟨gk, rfl, hcell⟩ := ks_cell HO.out (by rw [HKL.out]) (by omega)
              have q0 := hcell 0 (by omega)
              obtain ⟨k0, hk0⟩ : ∃ k, k = ks.getD 0 0 := ⟨_, rfl⟩
              rw [← hk0] at q0 HRV
              have b0 : ((0 : Nat) : Int) < (e.kids.length : Int) := by omega
              have HN0 := Lib.hid hn
              clear hcell hn hk0
              have hop := HEO.out.trans hop
              subst hop
              clear HEO
              go_wp2_with fail
              all_goals (go_meet; exact ⟨by first | (rw [HRV.out]; done) | (rw [HRV.out]; rfl), by rw [HRV.out], by first | exact Below.refl _ _ | exact (Below.refl _ _).drew | exact below_drewN (Below.refl _ _) _⟩)
          · as_aux_lemma =>
              obtain hop := bytes_eq hop
              have HRV : Hid (ru = (true, ks.getD 0 0)) := Lib.hid (by rw [HRU.out, hop]; kernel_rfl)
              have hn : 1 ≤ e.kids.length := by have := HWK.out.1; rw [hop] at this; exact this
              obtain ⟨gk, rfl, hcell⟩ := ks_cell HO.out (by rw [HKL.out]) (by omega)
              have q0 := hcell 0 (by omega)
              obtain ⟨k0, hk0⟩ : ∃ k, k = ks.getD 0 0 := ⟨_, rfl⟩
              rw [← hk0] at q0 HRV
              have b0 : ((0 : Nat) : Int) < (e.kids.length : Int) := by omega
              have HN0 := Lib.hid hn
              clear hcell hn hk0
              have hop := HEO.out.trans hop
              subst hop
              clear HEO
              go_wp2_with fail
              all_goals (go_meet; exact ⟨by first | (rw [HRV.out]; done) | (rw [HRV.out]; rfl), by rw [HRV.out], by first | exact Below.refl _ _ | exact (Below.refl _ _).drew | exact below_drewN (Below.refl _ _) _⟩)
          iterate 5
            focus as_aux_lemma =>
              obtain hop := bytes_eq hop
              have HRV : Hid (ru = ((ks.getD 0 0 == 2) && (ks.getD 1 0 == 2), 2)) := Lib.hid (by rw [HRU.out, hop]; kernel_rfl)
              have hn : 2 ≤ e.kids.length := by have := HWK.out.1; rw [hop] at this; exact this
              obtain ⟨gk, rfl, hcell⟩ := ks_cell HO.out (by rw [HKL.out]) (by omega)
              have q0 := hcell 0 (by omega)
              have q1 := hcell 1 (by omega)
              obtain ⟨k0, hk0⟩ : ∃ k, k = ks.getD 0 0 := ⟨_, rfl⟩
              rw [← hk0] at q0 HRV
              have b0 : ((0 : Nat) : Int) < (e.kids.length : Int) := by omega
              obtain ⟨k1, hk1⟩ : ∃ k, k = ks.getD 1 0 := ⟨_, rfl⟩
              rw [← hk1] at q1 HRV
              have b1 : ((1 : Nat) : Int) < (e.kids.length : Int) := by omega
              have HN0 := Lib.hid hn
              clear hcell hn hk0 hk1
              have hop := HEO.out.trans hop
              subst hop
              clear HEO
              by_cases h0 : k0 = 2
              · subst h0
                go_wp2_with fail
                all_goals (go_meet; exact ⟨by first | (rw [HRV.out]; done) | (rw [HRV.out]; rfl), by rw [HRV.out], by first | exact Below.refl _ _ | exact (Below.refl _ _).drew | exact below_drewN (Below.refl _ _) _⟩)
              · have z0 : (k0 == 2) = false := by simpa using h0
                go_wp2_with fail
                all_goals (go_meet; exact ⟨by rw [HRV.out, z0]; rfl, by rw [HRV.out], by first | exact Below.refl _ _ | exact (Below.refl _ _).drew | exact below_drewN (Below.refl _ _) _⟩)
          iterate 2
            focus as_aux_lemma =>
              obtain hop := bytes_eq hop
              have HRV : Hid (ru = (ks.getD 0 0 == ks.getD 1 0, 1)) := Lib.hid (by rw [HRU.out, hop]; kernel_rfl)
              have hn : 2 ≤ e.kids.length := by have := HWK.out.1; rw [hop] at this; exact this
              obtain ⟨gk, rfl, hcell⟩ := ks_cell HO.out (by rw [HKL.out]) (by omega)
              have q0 := hcell 0 (by omega)
              have q1 := hcell 1 (by omega)
              obtain ⟨k0, hk0⟩ : ∃ k, k = ks.getD 0 0 := ⟨_, rfl⟩
              rw [← hk0] at q0 HRV
              have b0 : ((0 : Nat) : Int) < (e.kids.length : Int) := by omega
              obtain ⟨k1, hk1⟩ : ∃ k, k = ks.getD 1 0 := ⟨_, rfl⟩
              rw [← hk1] at q1 HRV
              have b1 : ((1 : Nat) : Int) < (e.kids.length : Int) := by omega
              have HN0 := Lib.hid hn
              clear hcell hn hk0 hk1
              have hop := HEO.out.trans hop
              subst hop
              clear HEO
              go_upto_region 29 with fail
              go_quiet (fail)
              go_wp2_with fail
              all_goals (go_meet; exact ⟨by first | (rw [HRV.out]; done) | (rw [HRV.out]; rfl), by rw [HRV.out], by first | exact Below.refl _ _ | exact (Below.refl _ _).drew | exact below_drewN (Below.refl _ _) _⟩)
          iterate 4
            focus as_aux_lemma =>
              obtain hop := bytes_eq hop
              have HRV : Hid (ru = ((ks.getD 0 0 == 2) && (ks.getD 1 0 == 2), 1)) := Lib.hid (by rw [HRU.out, hop]; kernel_rfl)
              have hn : 2 ≤ e.kids.length := by have := HWK.out.1; rw [hop] at this; exact this
              obtain ⟨gk, rfl, hcell⟩ := ks_cell HO.out (by rw [HKL.out]) (by omega)
              have q0 := hcell 0 (by omega)
              have q1 := hcell 1 (by omega)
              obtain ⟨k0, hk0⟩ : ∃ k, k = ks.getD 0 0 := ⟨_, rfl⟩
              rw [← hk0] at q0 HRV
              have b0 : ((0 : Nat) : Int) < (e.kids.length : Int) := by omega
              obtain ⟨k1, hk1⟩ : ∃ k, k = ks.getD 1 0 := ⟨_, rfl⟩
              rw [← hk1] at q1 HRV
              have b1 : ((1 : Nat) : Int) < (e.kids.length : Int) := by omega
              have HN0 := Lib.hid hn
              clear hcell hn hk0 hk1
              have hop := HEO.out.trans hop
              subst hop
              clear HEO
              by_cases h0 : k0 = 2
              · subst h0
                go_wp2_with fail
                all_goals (go_meet; exact ⟨by first | (rw [HRV.out]; done) | (rw [HRV.out]; rfl), by rw [HRV.out], by first | exact Below.refl _ _ | exact (Below.refl _ _).drew | exact below_drewN (Below.refl _ _) _⟩)
              · have z0 : (k0 == 2) = false := by simpa using h0
                go_wp2_with fail
                all_goals (go_meet; exact ⟨by rw [HRV.out, z0]; rfl, by rw [HRV.out], by first | exact Below.refl _ _ | exact (Below.refl _ _).drew | exact below_drewN (Below.refl _ _) _⟩)
          iterate 3
            focus as_aux_lemma =>
              obtain hop := bytes_eq hop
              have HRV : Hid (ru = ((ks.getD 0 0 == 1) && (ks.getD 1 0 == 1), 1)) := Lib.hid (by rw [HRU.out, hop]; kernel_rfl)
              have hn : 2 ≤ e.kids.length := by have := HWK.out.1; rw [hop] at this; exact this
              obtain ⟨gk, rfl, hcell⟩ := ks_cell HO.out (by rw [HKL.out]) (by omega)
              have q0 := hcell 0 (by omega)
              have q1 := hcell 1 (by omega)
              obtain ⟨k0, hk0⟩ : ∃ k, k = ks.getD 0 0 := ⟨_, rfl⟩
              rw [← hk0] at q0 HRV
              have b0 : ((0 : Nat) : Int) < (e.kids.length : Int) := by omega
              obtain ⟨k1, hk1⟩ : ∃ k, k = ks.getD 1 0 := ⟨_, rfl⟩
              rw [← hk1] at q1 HRV
              have b1 : ((1 : Nat) : Int) < (e.kids.length : Int) := by omega
              have HN0 := Lib.hid hn
              clear hcell hn hk0 hk1
              have hop := HEO.out.trans hop
              subst hop
              clear HEO
              by_cases h0 : k0 = 1
              · subst h0
                go_wp2_with fail
                all_goals (go_meet; exact ⟨by first | (rw [HRV.out]; done) | (rw [HRV.out]; rfl), by rw [HRV.out], by first | exact Below.refl _ _ | exact (Below.refl _ _).drew | exact below_drewN (Below.refl _ _) _⟩)
              · have z0 : (k0 == 1) = false := by simpa using h0
                go_wp2_with fail
                all_goals (go_meet; exact ⟨by rw [HRV.out, z0]; rfl, by rw [HRV.out], by first | exact Below.refl _ _ | exact (Below.refl _ _).drew | exact below_drewN (Below.refl _ _) _⟩)
          iterate 2
            focus as_aux_lemma =>
              obtain hop := bytes_eq hop
              have HRV : Hid (ru = (ks.getD 0 0 == ks.getD 1 0, ks.getD 0 0)) := Lib.hid (by rw [HRU.out, hop]; kernel_rfl)
              have hn : 2 ≤ e.kids.length := by have := HWK.out.1; rw [hop] at this; exact this
              obtain ⟨gk, rfl, hcell⟩ := ks_cell HO.out (by rw [HKL.out]) (by omega)
              have q0 := hcell 0 (by omega)
              have q1 := hcell 1 (by omega)
              obtain ⟨k0, hk0⟩ : ∃ k, k = ks.getD 0 0 := ⟨_, rfl⟩
              rw [← hk0] at q0 HRV
              have b0 : ((0 : Nat) : Int) < (e.kids.length : Int) := by omega
              obtain ⟨k1, hk1⟩ : ∃ k, k = ks.getD 1 0 := ⟨_, rfl⟩
              rw [← hk1] at q1 HRV
              have b1 : ((1 : Nat) : Int) < (e.kids.length : Int) := by omega
              have HN0 := Lib.hid hn
              clear hcell hn hk0 hk1
              have hop := HEO.out.trans hop
              subst hop
              clear HEO
              go_upto_region 41 with fail
              go_quiet (fail)
              go_wp2_with fail
              all_goals (go_meet; exact ⟨by first | (rw [HRV.out]; done) | (rw [HRV.out]; rfl), by rw [HRV.out], by first | exact Below.refl _ _ | exact (Below.refl _ _).drew | exact below_drewN (Below.refl _ _) _⟩)
          · as_aux_lemma =>
              obtain hop := bytes_eq hop
              have HRV : Hid (ru = (vk6 n e.name == 1, ks.getD 0 0)) := Lib.hid (by rw [HRU.out, hop]; kernel_rfl)
              have hn : 1 ≤ e.kids.length := by have := HWK.out.1; rw [hop] at this; exact this
              obtain ⟨gk, rfl, hcell⟩ := ks_cell HO.out (by rw [HKL.out]) (by omega)
              have q0 := hcell 0 (by omega)
              obtain ⟨k0, hk0⟩ : ∃ k, k = ks.getD 0 0 := ⟨_, rfl⟩
              rw [← hk0] at q0 HRV
              have b0 : ((0 : Nat) : Int) < (e.kids.length : Int) := by omega
              have HN0 := Lib.hid hn
              clear hcell hn hk0
              have hop := HEO.out.trans hop
              subst hop
              clear HEO
              have kf := Find_any n HLV.out e.name wr _ xi xo xl xe ci co cl ce (NdIn.grown6 HG.out.grown (fun k hk => by injection hk with hk; subst hk; exact HNK.out) HKN.out)
              have HNR := Lib.hid (HG.out.get 0 rfl)
              unfold ndV GivesFv at kf
              obtain ⟨v, hvv⟩ : ∃ v, v = (find6 e.name.data.toList (vars6 n)).getD vrZ := ⟨_, rfl⟩
              have HVK : Hid (vk6 n e.name = (v.kind : Int)) := Lib.hid (by rw [hvv]; rfl)
              rw [← hvv] at kf
              obtain ⟨fs, hfs⟩ : ∃ fs, fs = (find6 e.name.data.toList (vars6 n)).isSome := ⟨_, rfl⟩
              rw [← hfs] at kf
              unfold vrA at kf
              have c1 := cell_of_row wr (w.heap.size + 1) 1 _ _ _ (HG.out.get 1 rfl)
              have HLK := Lib.hid (HO.out.gt gk rfl).2
              clear hvv hfs
              go_wp2_with (refine wpList_load_row rfl 38 (.tmp 6) rfl w.heap.size rfl 38 #[.string n.name, .slice xi n.ins.length ci, .slice xo n.outs.length co, .slice xl n.locs.length cl, .slice xe n.eqs.length ce, .int .i64 (n.at_ : Int)] (0, 0) _ ?_ Try.underlying38 rfl HSN.out ?_; (exact HNR.out))
              (with_reducible refine kf.mono ?_)
              rintro e9 w1 ⟨rfl, hb⟩
              obtain ⟨hnb, hnr⟩ := new_row w1 62 #[.string ⟨#[]⟩, .int .i64 0, .string ⟨#[]⟩, .bool false, .int .i64 0] #[.string v.name, .int .i64 (v.kind : Int), .string v.on, .bool v.not_, .int .i64 (v.at_ : Int)]
              have HAL := Lib.hid (heap_alloc_new w1 (.cells #[.string ⟨#[]⟩, .int .i64 0, .string ⟨#[]⟩, .bool false, .int .i64 0] 62))
              have HBX := Lib.hid (hb.trans (hnb.mono hb.size))
              obtain ⟨WX, hWX⟩ : ∃ WX, WX = ((w1.alloc (.cells #[.string ⟨#[]⟩, .int .i64 0, .string ⟨#[]⟩, .bool false, .int .i64 0] 62)).setRow w1.heap.size #[.string v.name, .int .i64 (v.kind : Int), .string v.on, .bool v.not_, .int .i64 (v.at_ : Int)]) := ⟨_, rfl⟩
              rw [← hWX] at HBX hnr
              have HNX := Lib.hid hnr
              have HQ0 := Lib.hid ((HBX.out.cell (p := ⟨gk, 0, none⟩) HLK.out).trans q0)
              clear kf hb hnb hnr c1 q0
              go_upto_region 46 with (refine wpList_store_row rfl 62 (.tmp 15) (.tmp 167) rfl w1.heap.size #[.string v.name, .int .i64 (v.kind : Int), .string v.on, .bool v.not_, .int .i64 (v.at_ : Int)] rfl rfl 62 #[.string ⟨#[]⟩, .int .i64 0, .string ⟨#[]⟩, .bool false, .int .i64 0] ?_ HSV.out rfl (v6_one _ _ _ _ _) ?_; (exact HAL.out))
              rw [← hWX]
              have c2 := cell_of_row WX w1.heap.size 1 _ _ _ HNX.out
              have q0 := HQ0.out
              clear hWX
              go_quiet (fail)
              go_wp2_with fail
              all_goals (go_meet; exact ⟨by first | (rw [HRV.out, HVK.out]; done) | (rw [HRV.out, HVK.out]; rfl), by rw [HRV.out], by first | exact HBX.out | exact HBX.out.drew | exact below_drewN HBX.out _⟩)
          · as_aux_lemma =>
              obtain hop := bytes_eq hop
              have HRV : Hid (ru = ((ks.getD 0 0 == 1) && (ks.getD 1 0 == ks.getD 2 0), ks.getD 1 0)) := Lib.hid (by rw [HRU.out, hop]; kernel_rfl)
              have hn : 3 ≤ e.kids.length := by have := HWK.out.1; rw [hop] at this; exact this
              obtain ⟨gk, rfl, hcell⟩ := ks_cell HO.out (by rw [HKL.out]) (by omega)
              have q0 := hcell 0 (by omega)
              have q1 := hcell 1 (by omega)
              have q2 := hcell 2 (by omega)
              obtain ⟨k0, hk0⟩ : ∃ k, k = ks.getD 0 0 := ⟨_, rfl⟩
              rw [← hk0] at q0 HRV
              have b0 : ((0 : Nat) : Int) < (e.kids.length : Int) := by omega
              obtain ⟨k1, hk1⟩ : ∃ k, k = ks.getD 1 0 := ⟨_, rfl⟩
              rw [← hk1] at q1 HRV
              have b1 : ((1 : Nat) : Int) < (e.kids.length : Int) := by omega
              obtain ⟨k2, hk2⟩ : ∃ k, k = ks.getD 2 0 := ⟨_, rfl⟩
              rw [← hk2] at q2 HRV
              have b2 : ((2 : Nat) : Int) < (e.kids.length : Int) := by omega
              have HN0 := Lib.hid hn
              clear hcell hn hk0 hk1 hk2
              have hop := HEO.out.trans hop
              subst hop
              clear HEO
              by_cases h0 : k0 = 1
              · subst h0
                go_upto_region 43 with fail
                go_quiet (fail)
                go_wp2_with fail
                all_goals (go_meet; exact ⟨by first | (rw [HRV.out]; done) | (rw [HRV.out]; rfl), by rw [HRV.out], by first | exact Below.refl _ _ | exact (Below.refl _ _).drew | exact below_drewN (Below.refl _ _) _⟩)
              · have z0 : (k0 == 1) = false := by simpa using h0
                go_upto_region 43 with fail
                go_quiet (fail)
                go_wp2_with fail
                all_goals (go_meet; exact ⟨by rw [HRV.out, z0]; rfl, by rw [HRV.out], by first | exact Below.refl _ _ | exact (Below.refl _ _).drew | exact below_drewN (Below.refl _ _) _⟩)
          · as_aux_lemma =>
              obtain hop := bytes_eq hop
              have HRV : Hid (ru = ((vk6 n e.name == 1) && (ks.getD 0 0 == ks.getD 1 0), ks.getD 0 0)) := Lib.hid (by rw [HRU.out, hop]; kernel_rfl)
              have hn : 2 ≤ e.kids.length := by have := HWK.out.1; rw [hop] at this; exact this
              obtain ⟨gk, rfl, hcell⟩ := ks_cell HO.out (by rw [HKL.out]) (by omega)
              have q0 := hcell 0 (by omega)
              have q1 := hcell 1 (by omega)
              obtain ⟨k0, hk0⟩ : ∃ k, k = ks.getD 0 0 := ⟨_, rfl⟩
              rw [← hk0] at q0 HRV
              have b0 : ((0 : Nat) : Int) < (e.kids.length : Int) := by omega
              obtain ⟨k1, hk1⟩ : ∃ k, k = ks.getD 1 0 := ⟨_, rfl⟩
              rw [← hk1] at q1 HRV
              have b1 : ((1 : Nat) : Int) < (e.kids.length : Int) := by omega
              have HN0 := Lib.hid hn
              clear hcell hn hk0 hk1
              have hop := HEO.out.trans hop
              subst hop
              clear HEO
              have kf := Find_any n HLV.out e.name wr _ xi xo xl xe ci co cl ce (NdIn.grown6 HG.out.grown (fun k hk => by injection hk with hk; subst hk; exact HNK.out) HKN.out)
              have HNR := Lib.hid (HG.out.get 0 rfl)
              unfold ndV GivesFv at kf
              obtain ⟨v, hvv⟩ : ∃ v, v = (find6 e.name.data.toList (vars6 n)).getD vrZ := ⟨_, rfl⟩
              have HVK : Hid (vk6 n e.name = (v.kind : Int)) := Lib.hid (by rw [hvv]; rfl)
              rw [← hvv] at kf
              obtain ⟨fs, hfs⟩ : ∃ fs, fs = (find6 e.name.data.toList (vars6 n)).isSome := ⟨_, rfl⟩
              rw [← hfs] at kf
              unfold vrA at kf
              have c1 := cell_of_row wr (w.heap.size + 1) 1 _ _ _ (HG.out.get 1 rfl)
              have HLK := Lib.hid (HO.out.gt gk rfl).2
              clear hvv hfs
              go_wp2_with (refine wpList_load_row rfl 38 (.tmp 6) rfl w.heap.size rfl 38 #[.string n.name, .slice xi n.ins.length ci, .slice xo n.outs.length co, .slice xl n.locs.length cl, .slice xe n.eqs.length ce, .int .i64 (n.at_ : Int)] (0, 0) _ ?_ Try.underlying38 rfl HSN.out ?_; (exact HNR.out))
              (with_reducible refine kf.mono ?_)
              rintro e9 w1 ⟨rfl, hb⟩
              obtain ⟨hnb, hnr⟩ := new_row w1 62 #[.string ⟨#[]⟩, .int .i64 0, .string ⟨#[]⟩, .bool false, .int .i64 0] #[.string v.name, .int .i64 (v.kind : Int), .string v.on, .bool v.not_, .int .i64 (v.at_ : Int)]
              have HAL := Lib.hid (heap_alloc_new w1 (.cells #[.string ⟨#[]⟩, .int .i64 0, .string ⟨#[]⟩, .bool false, .int .i64 0] 62))
              have HBX := Lib.hid (hb.trans (hnb.mono hb.size))
              obtain ⟨WX, hWX⟩ : ∃ WX, WX = ((w1.alloc (.cells #[.string ⟨#[]⟩, .int .i64 0, .string ⟨#[]⟩, .bool false, .int .i64 0] 62)).setRow w1.heap.size #[.string v.name, .int .i64 (v.kind : Int), .string v.on, .bool v.not_, .int .i64 (v.at_ : Int)]) := ⟨_, rfl⟩
              rw [← hWX] at HBX hnr
              have HNX := Lib.hid hnr
              have HQ0 := Lib.hid ((HBX.out.cell (p := ⟨gk, 0, none⟩) HLK.out).trans q0)
              have HQ1 := Lib.hid ((HBX.out.cell (p := ⟨gk, 1, none⟩) HLK.out).trans q1)
              clear kf hb hnb hnr c1 q0 q1
              go_upto_region 49 with (refine wpList_store_row rfl 62 (.tmp 17) (.tmp 182) rfl w1.heap.size #[.string v.name, .int .i64 (v.kind : Int), .string v.on, .bool v.not_, .int .i64 (v.at_ : Int)] rfl rfl 62 #[.string ⟨#[]⟩, .int .i64 0, .string ⟨#[]⟩, .bool false, .int .i64 0] ?_ HSV.out rfl (v6_one _ _ _ _ _) ?_; (exact HAL.out))
              rw [← hWX]
              have c2 := cell_of_row WX w1.heap.size 1 _ _ _ HNX.out
              have q0 := HQ0.out
              have q1 := HQ1.out
              clear hWX
              obtain ⟨kv, hkv⟩ : ∃ kv, kv = (v.kind : Int) := ⟨_, rfl⟩
              rw [← hkv] at c2 HVK
              clear hkv
              by_cases h0 : kv = 1
              · subst h0
                go_quiet (fail)
                go_wp2_with fail
                all_goals (go_meet; exact ⟨by first | (rw [HRV.out, HVK.out]; done) | (rw [HRV.out, HVK.out]; rfl), by rw [HRV.out], by first | exact HBX.out | exact HBX.out.drew | exact below_drewN HBX.out _⟩)
              · have z0 : (kv == 1) = false := by simpa using h0
                go_quiet (fail)
                go_wp2_with fail
                all_goals (go_meet; exact ⟨by first | (rw [HRV.out, HVK.out, z0]; done) | (rw [HRV.out, HVK.out, z0]; rfl), by rw [HRV.out], by first | exact HBX.out | exact HBX.out.drew | exact below_drewN HBX.out _⟩)
          · as_aux_lemma =>
              obtain ⟨k, hk, hno, hkl, hol⟩ := HWK.out.2.1 hop
              obtain hop := bytes_eq hop
              have HRV : Hid (ru = (allK6 (callee6 l e.name).ins ks, (((callee6 l e.name).outs.getD 0 vrZ).kind : Int))) := Lib.hid (by rw [HRU.out, hop]; kernel_rfl)
              have hop := HEO.out.trans hop
              subst hop
              clear HEO
              have hAw := IsD.grown HG.out.grown (fun k hk => by injection hk with hk; subst hk; exact HNK.out) HKA.out
              have kn := NodeOf_any l e.name wr _ xa ca hAw
              rw [hno] at kn
              have kn2 : Calls Try.prog 81 #[.slice xa l.length ca, .string e.name] wr (fun e w' => e = .returned (.int .i64 (k : Int)) ∧ w' = wr) := kn
              obtain ⟨g2, rfl, hg2, mi, mci, mo, mco, ml, mcl, me, mce, hrg, hI1, hI2, hI3, hI4⟩ := nd_at hAw k hk
              have hcal : callee6 l e.name = l[k] := by unfold callee6; rw [hno]; simp [List.getD, hk]
              obtain ⟨mm, hmm⟩ : ∃ mm, mm = l[k] := ⟨_, rfl⟩
              rw [← hmm] at hrg hI1 hI2 hkl hol hcal
              rw [hcal] at HRV
              have HRG := Lib.hid hrg
              have HI1 := Lib.hid hI1
              have HI2 := Lib.hid hI2
              have HKL2 := Lib.hid hkl
              have HOL := Lib.hid hol
              have HG2 := Lib.hid hg2
              have HAL := Lib.hid (heap_alloc_new wr (.cells #[.string ⟨#[]⟩, .slice none 0 0, .slice none 0 0, .slice none 0 0, .slice none 0 0, .int .i64 0] 38))
              obtain ⟨hnb, hnr⟩ := new_row wr 38 #[.string ⟨#[]⟩, .slice none 0 0, .slice none 0 0, .slice none 0 0, .slice none 0 0, .int .i64 0] #[.string mm.name, .slice mi mm.ins.length mci, .slice mo mm.outs.length mco, .slice ml mm.locs.length mcl, .slice me mm.eqs.length mce, .int .i64 (mm.at_ : Int)]
              obtain ⟨WX, hWX⟩ : ∃ WX, WX = ((wr.alloc (.cells #[.string ⟨#[]⟩, .slice none 0 0, .slice none 0 0, .slice none 0 0, .slice none 0 0, .int .i64 0] 38)).setRow wr.heap.size #[.string mm.name, .slice mi mm.ins.length mci, .slice mo mm.outs.length mco, .slice ml mm.locs.length mcl, .slice me mm.eqs.length mce, .int .i64 (mm.at_ : Int)]) := ⟨_, rfl⟩
              rw [← hWX] at hnb hnr
              have HBX := Lib.hid hnb
              have HNX := Lib.hid hnr
              have c1 := cell_of_row wr (w.heap.size + 1) 1 _ _ _ (HG.out.get 1 rfl)
              have i0 : (0 : Int) ≤ (k : Int) := by omega
              have i1 : (k : Int) < (l.length : Int) := by omega
              clear hI3 hI4 hAw kn hg2 hrg hI1 hI2 hkl hol hcal hmm hnb hnr hno hk
              go_wp2_with fail
              (with_reducible refine kn2.mono ?_)
              rintro e9 w1 ⟨rfl, rfl⟩
              clear kn2 c1
              go_upto_region 52 with (first | (refine wpList_load_mid rfl 38 (.tmp 206) rfl g2 (k * 6) rfl (ndC mm mi mo ml me mci mco mcl mce) _ ?_ Try.underlying38 rfl HSN.out ?_; (exact HRG.out)) | (refine wpList_store_row rfl 38 (.tmp 19) (.tmp 207) rfl w1.heap.size #[.string mm.name, .slice mi mm.ins.length mci, .slice mo mm.outs.length mco, .slice ml mm.locs.length mcl, .slice me mm.eqs.length mce, .int .i64 (mm.at_ : Int)] rfl rfl 38 #[.string ⟨#[]⟩, .slice none 0 0, .slice none 0 0, .slice none 0 0, .slice none 0 0, .int .i64 0] ?_ HSN.out rfl (n4_one _ _ _ _ _ _ _ _ _ _ _ _ _ _) ?_; (exact HAL.out)))
              rw [← hWX]
              clear hWX
              go_wp2_with fail
              go_loopw [11, 20] (fun v11 v20 wx => ∃ (j : Nat) (ob : Bool), v11 = .bool ob ∧ v20 = .int .i64 (j : Int) ∧ j ≤ e.kids.length ∧ Below WX.heap.size WX wx ∧ allK6 mm.ins ks = (ob && allK6 (mm.ins.drop j) (ks.drop j)))
                (fun _ v20 _ => e.kids.length - (intOf v20).toNat)
              case atStart => exact ⟨0, true, rfl, rfl, Nat.zero_le _, Below.refl _ _, by rw [List.drop_zero, List.drop_zero, Bool.true_and]⟩
              case round =>
                obtain ⟨j, ob, rfl, rfl, hj, hbx, hak⟩ := hrel
                have HJ := Lib.hid hj
                have HBJ := Lib.hid hbx
                by_cases hjl : j < e.kids.length
                · have d1 : decide ((j : Int) < (e.kids.length : Int)) = true := by simp; omega
                  have HJL := Lib.hid hjl
                  have hbw := HBX.out.trans (hbx.mono HBX.out.size)
                  obtain ⟨gk, rfl, hcell⟩ := ks_cell HO.out (by rw [HKL.out]) (by omega)
                  have q0 := (hbw.cell (p := ⟨gk, j, none⟩) (HO.out.gt gk rfl).2).trans (hcell j hjl)
                  have hji : j < mm.ins.length := by have := HKL2.out; omega
                  obtain ⟨gi, rfl, hgi, hri⟩ := var_at HI1.out j hji
                  have q1 : wr.cell? ⟨gi, j * 5 + 1, none⟩ = some (.int .i64 ((mm.ins[j]).kind : Int)) := (hbw.cell (p := ⟨gi, j * 5 + 1, none⟩) hgi).trans (hri 1 _ rfl)
                  have c1 := cell_of_row wr w1.heap.size 1 _ _ _ ((hbx.block _ (Array.getElem?_eq_some_iff.1 HNX.out).1).trans HNX.out)
                  have hjk : j < ks.length := by rw [HKL.out]; exact hjl
                  rw [List.drop_eq_getElem_cons hji, List.drop_eq_getElem_cons hjk] at hak
                  have hk9 : ks.getD j 0 = ks[j] := by simp [List.getD, hjk]
                  rw [hk9] at q0
                  obtain ⟨kx, hkx⟩ : ∃ kx, kx = ks[j] := ⟨_, rfl⟩
                  obtain ⟨ky, hky⟩ : ∃ ky, ky = ((mm.ins[j]).kind : Int) := ⟨_, rfl⟩
                  have hak2 : allK6 mm.ins ks = (ob && ((ky == kx) && allK6 (mm.ins.drop (j + 1)) (ks.drop (j + 1)))) := by rw [hak, hkx, hky]; rfl
                  rw [← hkx] at q0
                  rw [← hky] at q1
                  have HAK := Lib.hid hak2
                  have j0 : (0 : Int) ≤ (j : Int) := by omega
                  have j1 : (j : Int) < (e.kids.length : Int) := by omega
                  have j2 : (j : Int) < (mm.ins.length : Int) := by omega
                  clear hak hak2 hkx hky hk9 hjk hri hgi hji hcell hbw hjl hj
                  cases ob with
                  | true =>
                    go_wp2_with fail
                    go_quiet (fail)
                    go_wp2_with fail
                    refine ⟨⟨j + 1, ky == kx, rfl, wrap_succ (by have := HJL.out; have := HFEW.out; omega), HJL.out, below_drewN HBJ.out _, by rw [HAK.out, Bool.true_and]⟩, ?_⟩
                    rw [wrap_succ (by have := HJL.out; have := HFEW.out; omega)]
                    have := HJL.out
                    simp [intOf]; omega
                  | false =>
                    go_wp2_with fail
                    go_quiet (fail)
                    go_wp2_with fail
                    refine ⟨⟨j + 1, false, rfl, wrap_succ (by have := HJL.out; have := HFEW.out; omega), HJL.out, below_drewN HBJ.out _, by rw [HAK.out, Bool.false_and, Bool.false_and]⟩, ?_⟩
                    rw [wrap_succ (by have := HJL.out; have := HFEW.out; omega)]
                    have := HJL.out
                    simp [intOf]; omega
                · have d1 : decide ((j : Int) < (e.kids.length : Int)) = false := by simp; omega
                  obtain rfl : j = e.kids.length := by have := HJ.out; omega
                  have hdk : ks.drop e.kids.length = [] := List.drop_of_length_le (by rw [HKL.out]; exact Nat.le_refl _)
                  have hob : allK6 mm.ins ks = ob := by
                    rw [hak, hdk]
                    have : ∀ l : List Vr, allK6 l [] = true := fun l => by cases l <;> rfl
                    rw [this, Bool.and_true]
                  have HOB := Lib.hid hob
                  have hbw := HBX.out.trans (hbx.mono HBX.out.size)
                  obtain ⟨go, rfl, hgo, hro⟩ := var_at HI2.out 0 (by have := HOL.out; omega)
                  have q1 : wr.cell? ⟨go, 1, none⟩ = some (.int .i64 ((mm.outs[0]'(by have := HOL.out; omega)).kind : Int)) := (hbw.cell (p := ⟨go, 1, none⟩) hgo).trans (hro 1 _ rfl)
                  have c2 := cell_of_row wr w1.heap.size 2 _ _ _ ((hbx.block _ (Array.getElem?_eq_some_iff.1 HNX.out).1).trans HNX.out)
                  have hko : (mm.outs.getD 0 vrZ) = (mm.outs[0]'(by have := HOL.out; omega)) := by simp [List.getD, show 0 < mm.outs.length by have := HOL.out; omega]
                  obtain ⟨ko, hkk⟩ : ∃ ko, ko = ((mm.outs[0]'(by have := HOL.out; omega)).kind : Int) := ⟨_, rfl⟩
                  rw [← hkk] at q1
                  have HRV2 : Hid (ru = (ob, ko)) := Lib.hid (by rw [HRV.out, hob, hko, hkk])
                  have HBW2 := Lib.hid hbw
                  have o1 : (0 : Int) < (mm.outs.length : Int) := by have := HOL.out; omega
                  clear hak hdk hob hbw hgo hro hko hkk hjl hj
                  go_wp2_with fail
                  all_goals (go_meet; exact ⟨by rw [HRV2.out], by rw [HRV2.out], HBW2.out⟩)
        case rest =>
          rename World => wa
          obtain ⟨rfl, rfl, hb⟩ := hcut
          have HG2 := Lib.hid (HG.out.call hb)
          have HC2 := Lib.hid (HC.out.below hb)
          obtain ⟨ok, r⟩ := ru
          cases ok with
          | true =>
            have HR2 : Hid (R = (r, B)) := Lib.hid HRR.out
            clear hb HRR
            go_wp2_with fail
            go_ret
            exact ⟨by rw [HR2.out]; rfl, by rw [HR2.out]; exact HC2.out, HG2.out.grown⟩
          | false =>
            have HR2 : Hid (R = (r, fl6 B 9 e.at_)) := Lib.hid HRR.out
            have c3 := cell_of_row wa (w.heap.size + 1) 3 _ _ _ (HG2.out.get 1 rfl)
            have k8 : Calls Try.prog 50 #[.pointer (some ⟨gc, 0, none⟩), .int .i64 9, .int .i64 (e.at_ : Int)] wa (GivesCk gc (fl6 B 9 e.at_) wa) := fail6_any wa gc B HC2.out 9 e.at_
            unfold GivesCk at k8
            clear hb HRR
            go_wp2_with fail
            (with_reducible refine k8.mono ?_)
            rintro e9 w3 ⟨rfl, hC3, hg3⟩
            have HG3 := Lib.hid (HG2.out.own hg3)
            have HC3 := Lib.hid hC3
            clear k8 hC3 hg3 c3
            go_wp2_with fail
            go_ret
            exact ⟨by rw [HR2.out]; rfl, by rw [HR2.out]; exact HC3.out, HG3.out.grown⟩
end Go.Proofs.Ytejljfoacbpliaa

namespace Go.Proofs.Ytejljfoacbpliaa
open Go Go.RowKit
def ARITY4 : List (List UInt8 × Nat) := [([105, 110, 116], 0), ([98, 111, 111, 108], 0), ([118, 97, 114], 0), ([110, 111, 116], 1), ([110, 101, 103], 1), ([112, 114, 101], 1), ([43], 2), ([45], 2), ([42], 2), ([47], 2), ([109, 111, 100], 2), ([61], 2), ([60, 62], 2), ([60], 2), ([60, 61], 2), ([62], 2), ([62, 61], 2), ([97, 110, 100], 2), ([111, 114], 2), ([120, 111, 114], 2), ([45, 62], 2), ([102, 98, 121], 2), ([119, 104, 101, 110], 1), ([105, 102], 3), ([109, 101, 114, 103, 101], 2)]
def arOk (op : List UInt8) (n : Nat) : Bool := op == [99, 97, 108, 108] || ARITY4.contains (op, n)
mutual
def wfE : Ex → Bool
  | .mk op nm _ _ kids => arOk op.data.toList kids.length && (okNm nm && wfEs kids)
def wfEs : List Ex → Bool
  | [] => true
  | e :: r => wfE e && wfEs r
end
theorem wfE_eq (e : Ex) : wfE e = (arOk e.op.data.toList e.kids.length && (okNm e.name && wfEs e.kids)) := by
  cases e; conv => lhs; unfold wfE
  rfl
theorem wfEs_cons (e : Ex) (r : List Ex) : wfEs (e :: r) = (wfE e && wfEs r) := by conv => lhs; unfold wfEs
theorem wfEs_app : ∀ (a b : List Ex), wfEs (a ++ b) = (wfEs a && wfEs b)
  | [], b => by rw [List.nil_append, show wfEs [] = true by unfold wfEs; rfl, Bool.true_and]
  | e :: r, b => by rw [List.cons_append, wfEs_cons, wfEs_app r b, wfEs_cons, Bool.and_assoc]
theorem ar_ops {op : List UInt8} {n : Nat} (h : arOk op n = true) : OPSB.contains op = true := by
  unfold arOk at h
  simp only [Bool.or_eq_true, beq_iff_eq] at h
  rcases h with rfl | h
  · kernel_rfl
  · have h1 : (ARITY4.all fun x => OPSB.contains x.1) = true := by kernel_rfl
    exact List.all_eq_true.1 h1 _ (List.contains_iff_mem.1 h)
mutual
theorem wf_ok : ∀ e : Ex, wfE e = true → okE e = true
  | .mk op nm n at_ kids, h => by
    unfold wfE at h
    unfold okE
    simp only [Bool.and_eq_true] at h ⊢
    exact ⟨ar_ops h.1, h.2.1, wfs_ok kids h.2.2⟩
theorem wfs_ok : ∀ l : List Ex, wfEs l = true → okEs l = true
  | [], _ => by unfold okEs; rfl
  | e :: r, h => by
    unfold wfEs at h
    unfold okEs
    simp only [Bool.and_eq_true] at h ⊢
    exact ⟨wf_ok e h.1, wfs_ok r h.2⟩
end
def GoodT (L : List W4) : Prop := ∀ w ∈ L, w.text.size ≤ 1000000
theorem GoodT.cur {L : List W4} (h : GoodT L) (s : S4) : okNm (cur4 L s).text = true := by
  unfold okNm cur4
  by_cases hk : s.k < L.length
  · rw [List.getD_eq_getElem?_getD, List.getElem?_eq_getElem hk]
    exact decide_eq_true (h _ (List.getElem_mem hk))
  · rw [List.getD_eq_getElem?_getD, List.getElem?_eq_none (by omega)]
    rfl
section
variable {L : List W4}
theorem er_want {x : ByteArray} {s : S4} (h : (want4 L x s).er = 0) : s.er = 0 := Decidable.byContradiction fun h0 => (Mono4.want L x s).er h0 h
theorem er_take {x : ByteArray} {s : S4} (h : (take4 L x s).2.er = 0) : s.er = 0 := Decidable.byContradiction fun h0 => (Mono4.take L x s).er h0 h
theorem er_part {s : S4} (h : (part4 L s).er = 0) : s.er = 0 := Decidable.byContradiction fun h0 => (Mono4.part L s).er h0 h
theorem er_inc {s : S4} (h : (inc4 s).er = 0) : s.er = 0 := h
theorem er_fail {e : Nat} {s : S4} (he : e ≠ 0) (h : (fail4 L e s).er = 0) : False := fail4_er L e he s h
theorem er_name (hT : GoodT L) {s : S4} (h : (name4 L s).2.er = 0) : s.er = 0 ∧ (cur4 L s).kind = 1 ∧ okNm (name4 L s).1 = true ∧ (name4 L s).2.names = s.names := by
  unfold name4 at h ⊢
  by_cases hc : s.er = 0 ∧ (cur4 L s).kind = 1
  · rw [if_pos hc] at h ⊢
    exact ⟨hc.1, hc.2, hT.cur s, rfl⟩
  · rw [if_neg hc] at h
    exact (er_fail (by decide) h).elim
def FineX (f : S4 → Ex × S4) : Prop := ∀ s, (f s).2.er = 0 → s.er = 0 ∧ wfE (f s).1 = true ∧ (f s).2.names = s.names
theorem FineX.deep {n : Nat} {f : S4 → Ex × S4} {g : Ex → Ex} (hf : n ≠ 0 → FineX f) (hg : ∀ e, wfE e = true → wfE (g e) = true) : FineX (deep4 L n f g) := by
  intro s h
  unfold deep4 at h ⊢
  by_cases h0 : s.er = 0
  · rw [if_pos h0] at h ⊢
    by_cases hn : n = 0
    · rw [if_pos hn] at h
      exact (er_fail (by decide) h).elim
    · rw [if_neg hn] at h ⊢
      obtain ⟨_, h2, h3⟩ := hf hn s h
      exact ⟨h0, hg _ h2, h3⟩
  · rw [if_neg h0] at h
    exact absurd h h0
theorem nm_take (x : ByteArray) (s : S4) : (take4 L x s).2.names = s.names := by
  unfold take4
  show (if _ then _ else _ : S4).names = _
  split <;> rfl
theorem nm_fail (e : Nat) (s : S4) : (fail4 L e s).names = s.names := by unfold fail4; split <;> rfl
theorem nm_want (x : ByteArray) (s : S4) : (want4 L x s).names = s.names := by
  unfold want4
  split
  · rfl
  · exact nm_fail 7 s
theorem nm_part (s : S4) : (part4 L s).names = s.names := by
  unfold part4
  show (if _ then _ else _ : S4).names = _
  split
  · exact nm_fail 2 s
  · rfl
theorem wf_op2 {op : ByteArray} {at_ : Nat} {a b : Ex} (ho : arOk op.data.toList 2 = true) (ha : wfE a = true) (hb : wfE b = true) : wfE (op2 op at_ a b) = true := by
  unfold op2
  rw [wfE_eq]
  simp only [Ex.op, Ex.name, Ex.kids, Bool.and_eq_true]
  exact ⟨ho, rfl, by unfold wfEs wfEs wfEs; rw [ha, hb]; rfl⟩
theorem find_in {ops : List ByteArray} {s : S4} : find4 L ops s = ⟨#[]⟩ ∨ find4 L ops s ∈ ops := by
  have gen : ∀ (l : List ByteArray) (a : ByteArray), (l.foldl (fun r o => if is4 L o s = true then o else r) a) = a ∨ (l.foldl (fun r o => if is4 L o s = true then o else r) a) ∈ l := by
    intro l
    induction l with
    | nil => intro a; exact .inl rfl
    | cons o r ih =>
      intro a
      rw [List.foldl_cons]
      rcases ih (if is4 L o s = true then o else a) with h | h
      · rw [h]
        split
        · exact .inr (List.mem_cons_self ..)
        · exact .inl rfl
      · exact .inr (List.mem_cons_of_mem _ h)
  exact gen ops _
theorem FineX.rowL {ops : List ByteArray} {one : Bool} {sub : S4 → Ex × S4} (ho : (ops.all fun o => arOk o.data.toList 2) = true) (hs : FineX sub) : ∀ (f : Nat) (a : Ex) (s : S4), wfE a = true → (rowL4 L ops one sub f a s).2.er = 0 → s.er = 0 ∧ wfE (rowL4 L ops one sub f a s).1 = true ∧ (rowL4 L ops one sub f a s).2.names = s.names
  | 0, a, s, ha, h => by unfold rowL4 at h ⊢; exact ⟨h, ha, rfl⟩
  | f + 1, a, s, ha, h => by
    unfold rowL4 at h ⊢
    by_cases he : (find4 L ops s).data.toList = []
    · rw [if_pos he] at h ⊢
      exact ⟨h, ha, rfl⟩
    · rw [if_neg he] at h ⊢
      have hop : arOk (find4 L ops s).data.toList 2 = true := by
        rcases find_in (L := L) (ops := ops) (s := s) with h1 | h1
        · rw [h1] at he; exact absurd rfl he
        · exact List.all_eq_true.1 ho _ h1
      simp only at h ⊢
      obtain ⟨r, hr⟩ : ∃ r, r = sub (take4 L (find4 L ops s) (part4 L s)).2 := ⟨_, rfl⟩
      rw [← hr] at h ⊢
      have key : r.2.er = 0 → s.er = 0 ∧ wfE r.1 = true ∧ r.2.names = s.names := fun h2 => by
        rw [hr] at h2 ⊢
        obtain ⟨k1, k2, k3⟩ := hs _ h2
        exact ⟨er_part (er_take k1), k2, by rw [k3, nm_take, nm_part]⟩
      cases one with
      | true =>
        rw [if_pos rfl] at h ⊢
        obtain ⟨k1, k2, k3⟩ := key h
        exact ⟨k1, wf_op2 hop ha k2, k3⟩
      | false =>
        rw [if_neg (by decide)] at h ⊢
        have hz : r.2.er = 0 := by
          refine Decidable.byContradiction fun h0 => ?_
          have mono : ∀ (f : Nat) (a : Ex) (s : S4), s.er ≠ 0 → (rowL4 L ops false sub f a s).2.er ≠ 0 := by
            intro f
            induction f with
            | zero => intro a s h; unfold rowL4; exact h
            | succ f ih =>
              intro a s h
              unfold rowL4
              split
              · exact h
              · simp only
                rw [if_neg (by decide)]
                refine ih _ _ fun h2 => ?_
                obtain ⟨k1, _⟩ := hs _ h2
                exact h (er_part (er_take k1))
          exact mono f _ _ h0 h
        obtain ⟨k1, k2, k3⟩ := key hz
        obtain ⟨_, m2, m3⟩ := FineX.rowL ho hs f _ r.2 (wf_op2 hop ha k2) h
        exact ⟨k1, m2, by rw [m3, k3]⟩
theorem FineX.row {ops : List ByteArray} {one : Bool} {sub : S4 → Ex × S4} (ho : (ops.all fun o => arOk o.data.toList 2) = true) (hs : FineX sub) : FineX (row4 L ops one sub) := by
  intro s h
  unfold row4 at h ⊢
  have hz : (sub s).2.er = 0 := by
    refine Decidable.byContradiction fun h0 => ?_
    have mono : ∀ (f : Nat) (a : Ex) (s : S4), s.er ≠ 0 → (rowL4 L ops one sub f a s).2.er ≠ 0 := by
      intro f
      induction f with
      | zero => intro a s h; unfold rowL4; exact h
      | succ f ih =>
        intro a s h
        unfold rowL4
        split
        · exact h
        · simp only
          have hk : (sub (take4 L (find4 L ops s) (part4 L s)).2).2.er ≠ 0 := fun h2 => h (er_part (er_take (hs _ h2).1))
          split
          · exact hk
          · exact ih _ _ hk
    exact mono _ _ _ h0 h
  obtain ⟨k1, k2, k3⟩ := hs s hz
  obtain ⟨_, m2, m3⟩ := FineX.rowL ho hs _ _ _ k2 h
  exact ⟨k1, m2, by rw [m3, k3]⟩
theorem FineX.whenL (hT : GoodT L) : ∀ (f : Nat) (a : Ex) (s : S4), wfE a = true → (whenL4 L f a s).2.er = 0 → s.er = 0 ∧ wfE (whenL4 L f a s).1 = true ∧ (whenL4 L f a s).2.names = s.names
  | 0, a, s, ha, h => by unfold whenL4 at h ⊢; exact ⟨h, ha, rfl⟩
  | f + 1, a, s, ha, h => by
    unfold whenL4 at h ⊢
    by_cases hi : is4 L ⟨#[119, 104, 101, 110]⟩ s = true
    · rw [if_pos hi] at h ⊢
      simp only at h ⊢
      obtain ⟨t, ht⟩ : ∃ t, t = take4 L ⟨#[110, 111, 116]⟩ (take4 L ⟨#[119, 104, 101, 110]⟩ (part4 L s)).2 := ⟨_, rfl⟩
      rw [← ht] at h ⊢
      by_cases hm : (name4 L t.2).2.er = 0
      · obtain ⟨k1, _, k3, k4⟩ := er_name hT hm
        have hw : wfE (.mk ⟨#[119, 104, 101, 110]⟩ (name4 L t.2).1 (if t.1 = true then 0 else 1) (cur4 L s).at_ [a]) = true := by
          rw [wfE_eq]
          simp only [Ex.op, Ex.name, Ex.kids, Bool.and_eq_true]
          exact ⟨by kernel_rfl, k3, by unfold wfEs wfEs; rw [ha]; rfl⟩
        obtain ⟨_, m2, m3⟩ := FineX.whenL hT f _ _ hw h
        rw [ht] at k1
        exact ⟨er_part (er_take (er_take k1)), m2, by rw [m3, k4, ht, nm_take, nm_take, nm_part]⟩
      · have mono : ∀ (f : Nat) (a : Ex) (s : S4), s.er ≠ 0 → (whenL4 L f a s).2.er ≠ 0 := by
          intro f
          induction f with
          | zero => intro a s h; unfold whenL4; exact h
          | succ f ih =>
            intro a s h
            unfold whenL4
            split
            · exact ih _ _ fun h2 => h (er_part (er_take (er_take (er_name hT h2).1)))
            · exact h
        exact absurd h (mono f _ _ hm)
    · rw [if_neg hi] at h ⊢
      exact ⟨h, ha, rfl⟩
theorem FineX.when (hT : GoodT L) {un : S4 → Ex × S4} (hu : FineX un) : FineX (when4 L un) := by
  intro s h
  unfold when4 at h ⊢
  have mono : ∀ (f : Nat) (a : Ex) (s : S4), s.er ≠ 0 → (whenL4 L f a s).2.er ≠ 0 := by
    intro f
    induction f with
    | zero => intro a s h; unfold whenL4; exact h
    | succ f ih =>
      intro a s h
      unfold whenL4
      split
      · exact ih _ _ fun h2 => h (er_part (er_take (er_take (er_name hT h2).1)))
      · exact h
  have hz : (un s).2.er = 0 := Decidable.byContradiction fun h0 => mono _ _ _ h0 h
  obtain ⟨k1, k2, k3⟩ := hu s hz
  obtain ⟨_, m2, m3⟩ := FineX.whenL hT _ _ _ k2 h
  exact ⟨k1, m2, by rw [m3, k3]⟩
structure FineF (n : Nat) (sub : F4) : Prop where
  arrow : n ≠ 0 → FineX sub.arrow
  fby : n ≠ 0 → FineX sub.fby
  un : n ≠ 0 → FineX sub.un
  prim : n ≠ 0 → FineX sub.prim
theorem FineX.fby {n : Nat} {sub : F4} (hS : FineF n sub) (hT : GoodT L) {un : S4 → Ex × S4} (hu : FineX un) : FineX (fby4 L n sub un) := by
  intro s h
  unfold fby4 at h ⊢
  simp only at h ⊢
  obtain ⟨a, ha⟩ : ∃ a, a = when4 L un s := ⟨_, rfl⟩
  rw [← ha] at h ⊢
  have key : a.2.er = 0 → s.er = 0 ∧ wfE a.1 = true ∧ a.2.names = s.names := fun h2 => by rw [ha] at h2 ⊢; exact FineX.when hT hu s h2
  by_cases hi : is4 L ⟨#[102, 98, 121]⟩ a.2 = true
  · rw [if_pos hi] at h ⊢
    obtain ⟨q1, q2⟩ := key (is4_kind hi).2
    obtain ⟨d1, d2, d3⟩ := FineX.deep hS.fby (fun e he => wf_op2 (op := ⟨#[102, 98, 121]⟩) (at_ := (cur4 L a.2).at_) (by kernel_rfl) q2.1 he) _ h
    exact ⟨q1, d2, by rw [d3, nm_take, nm_part, q2.2]⟩
  · rw [if_neg hi] at h ⊢
    exact key h
theorem FineX.rows {fby : S4 → Ex × S4} (hf : FineX fby) : FineX (rows4 L fby) := by
  unfold rows4
  exact FineX.row (by kernel_rfl) (FineX.row (by kernel_rfl) (FineX.row (by kernel_rfl) (FineX.row (by kernel_rfl) (FineX.row (by kernel_rfl) hf))))
theorem FineX.arrow {n : Nat} {sub : F4} (hS : FineF n sub) {fby : S4 → Ex × S4} (hf : FineX fby) : FineX (arrow4 L n sub fby) := by
  intro s h
  unfold arrow4 at h ⊢
  simp only at h ⊢
  obtain ⟨a, ha⟩ : ∃ a, a = rows4 L fby s := ⟨_, rfl⟩
  rw [← ha] at h ⊢
  have key : a.2.er = 0 → s.er = 0 ∧ wfE a.1 = true ∧ a.2.names = s.names := fun h2 => by rw [ha] at h2 ⊢; exact FineX.rows hf s h2
  by_cases hi : is4 L ⟨#[45, 62]⟩ a.2 = true
  · rw [if_pos hi] at h ⊢
    obtain ⟨q1, q2⟩ := key (is4_kind hi).2
    obtain ⟨d1, d2, d3⟩ := FineX.deep hS.arrow (fun e he => wf_op2 (op := ⟨#[45, 62]⟩) (at_ := (cur4 L a.2).at_) (by kernel_rfl) q2.1 he) _ h
    exact ⟨q1, d2, by rw [d3, nm_take, nm_part, q2.2]⟩
  · rw [if_neg hi] at h ⊢
    exact key h
theorem unOp_in (s : S4) : (unOp4 L s).data.toList = [] ∨ arOk (unOp4 L s).data.toList 1 = true := by
  unfold unOp4
  split
  · exact .inr (by kernel_rfl)
  · split
    · exact .inr (by kernel_rfl)
    · split
      · exact .inr (by kernel_rfl)
      · exact .inl rfl
theorem FineX.un {n : Nat} {sub : F4} (hS : FineF n sub) {prim : S4 → Ex × S4} (hp : FineX prim) : FineX (un4 L n sub prim) := by
  intro s h
  unfold un4 at h ⊢
  by_cases he : (unOp4 L s).data.toList = []
  · rw [if_pos he] at h ⊢
    exact hp s h
  · rw [if_neg he] at h ⊢
    simp only at h ⊢
    have ho : arOk (unOp4 L s).data.toList 1 = true := by
      rcases unOp_in (L := L) s with h1 | h1
      · exact absurd h1 he
      · exact h1
    by_cases hp0 : (part4 L s).er = 0
    · rw [if_pos hp0] at h ⊢
      obtain ⟨d1, d2, d3⟩ := FineX.deep (L := L) hS.un (g := fun a => .mk (unOp4 L s) ⟨#[]⟩ 0 (cur4 L s).at_ [a]) (fun e hee => by
        rw [wfE_eq]
        simp only [Ex.op, Ex.name, Ex.kids, Bool.and_eq_true]
        exact ⟨ho, rfl, by unfold wfEs wfEs; rw [hee]; rfl⟩) _ h
      exact ⟨er_part hp0, d2, by rw [d3]; exact nm_part s⟩
    · rw [if_neg hp0] at h
      exact absurd h hp0
theorem FineX.exprN {n : Nat} {sub : F4} (hS : FineF n sub) : FineX (exprN4 L n sub) := FineX.deep hS.arrow (fun _ h => h)
theorem callL_fine {expr : S4 → Ex × S4} (he : FineX expr) : ∀ (f : Nat) (ks : List Ex) (s : S4), wfEs ks = true → (callL4 L expr f ks s).2.er = 0 → s.er = 0 ∧ wfEs (callL4 L expr f ks s).1 = true ∧ (callL4 L expr f ks s).2.names = s.names
  | 0, ks, s, hk, h => by unfold callL4 at h ⊢; exact ⟨h, hk, rfl⟩
  | f + 1, ks, s, hk, h => by
    unfold callL4 at h ⊢
    by_cases h0 : s.er = 0
    · rw [if_pos h0] at h ⊢
      simp only at h ⊢
      obtain ⟨r, hr⟩ : ∃ r, r = expr s := ⟨_, rfl⟩
      rw [← hr] at h ⊢
      have key : r.2.er = 0 → wfE r.1 = true ∧ r.2.names = s.names := fun h2 => by rw [hr] at h2 ⊢; exact (he s h2).2
      have app : wfE r.1 = true → wfEs (ks ++ [r.1]) = true := fun h1 => by rw [wfEs_app, hk]; unfold wfEs wfEs; rw [h1]; rfl
      by_cases ht : (take4 L ⟨#[44]⟩ r.2).1 = true
      · rw [if_pos ht] at h ⊢
        have hz : r.2.er = 0 := (is4_kind (show is4 L ⟨#[44]⟩ r.2 = true from ht)).2
        obtain ⟨k1, k2⟩ := key hz
        obtain ⟨_, m2, m3⟩ := callL_fine he f _ _ (app k1) h
        exact ⟨h0, m2, by rw [m3, nm_take, k2]⟩
      · rw [if_neg ht] at h ⊢
        obtain ⟨k1, k2⟩ := key (er_take h)
        exact ⟨h0, app k1, by rw [nm_take, k2]⟩
    · rw [if_neg h0] at h
      exact absurd h h0
theorem named_fine (hT : GoodT L) {expr : S4 → Ex × S4} (he : FineX expr) (at_ : Nat) : FineX (named4 L expr at_) := by
  intro s h
  unfold named4 at h ⊢
  simp only at h ⊢
  by_cases ht : (take4 L ⟨#[40]⟩ (name4 L s).2).1 = true
  · rw [if_pos ht] at h ⊢
    have hz : (name4 L s).2.er = 0 := (is4_kind (show is4 L ⟨#[40]⟩ (name4 L s).2 = true from ht)).2
    obtain ⟨k1, _, k3, k4⟩ := er_name hT hz
    by_cases hc : (take4 L ⟨#[41]⟩ (take4 L ⟨#[40]⟩ (name4 L s).2).2).1 = true
    · rw [if_pos hc] at h ⊢
      refine ⟨k1, ?_, by simp only [nm_take, k4]⟩
      rw [wfE_eq]
      simp only [Ex.op, Ex.name, Ex.kids, Bool.and_eq_true]
      exact ⟨by kernel_rfl, k3, by unfold wfEs; rfl⟩
    · rw [if_neg hc] at h ⊢
      obtain ⟨m1, m2, m3⟩ := callL_fine he _ [] _ (by unfold wfEs; rfl) (er_want h)
      refine ⟨k1, ?_, by simp only [nm_want, m3, nm_take, k4]⟩
      rw [wfE_eq]
      simp only [Ex.op, Ex.name, Ex.kids, Bool.and_eq_true]
      exact ⟨by unfold arOk; rfl, k3, m2⟩
  · rw [if_neg ht] at h ⊢
    obtain ⟨k1, _, k3, k4⟩ := er_name hT (er_take h)
    refine ⟨k1, ?_, by simp only [nm_take, k4]⟩
    rw [wfE_eq]
    simp only [Ex.op, Ex.name, Ex.kids, Bool.and_eq_true]
    exact ⟨by kernel_rfl, k3, by unfold wfEs; rfl⟩
theorem if_fine {expr : S4 → Ex × S4} (he : FineX expr) (at_ : Nat) : FineX (if4 L expr at_) := by
  intro s h
  unfold if4 at h ⊢
  simp only at h ⊢
  obtain ⟨c1, c2, c3⟩ := he _ h
  obtain ⟨b1, b2, b3⟩ := he _ (er_want c1)
  obtain ⟨a1, a2, a3⟩ := he _ (er_want b1)
  refine ⟨a1, ?_, by rw [c3, nm_want, b3, nm_want, a3]⟩
  rw [wfE_eq]
  simp only [Ex.op, Ex.name, Ex.kids, Bool.and_eq_true]
  exact ⟨by unfold arOk; rfl, rfl, by unfold wfEs wfEs wfEs wfEs; rw [a2, b2, c2]; rfl⟩
theorem merge_fine (hT : GoodT L) {inner : S4 → Ex × S4} (he : FineX inner) (at_ : Nat) : FineX (merge4 L inner at_) := by
  intro s h
  unfold merge4 at h ⊢
  simp only at h ⊢
  obtain ⟨b1, b2, b3⟩ := he _ h
  obtain ⟨a1, a2, a3⟩ := he _ b1
  obtain ⟨k1, _, k3, k4⟩ := er_name hT a1
  refine ⟨k1, ?_, by rw [b3, a3, k4]⟩
  rw [wfE_eq]
  simp only [Ex.op, Ex.name, Ex.kids, Bool.and_eq_true]
  exact ⟨by unfold arOk; rfl, k3, by unfold wfEs wfEs wfEs; rw [a2, b2]; rfl⟩
theorem primP_er {s : S4} (h : (primP4 L s).er = 0) : s.er = 0 := by
  unfold primP4 at h
  split at h
  · exact er_part h
  · exact h
theorem primP_nm (s : S4) : (primP4 L s).names = s.names := by
  unfold primP4
  split
  · exact nm_part s
  · rfl
theorem wf_leaf (op nm : ByteArray) (n : Int) (at_ : Nat) (h : arOk op.data.toList 0 = true) (hn : okNm nm = true) : wfE (.mk op nm n at_ []) = true := by
  rw [wfE_eq]
  simp only [Ex.op, Ex.name, Ex.kids, Bool.and_eq_true]
  exact ⟨h, hn, by unfold wfEs; rfl⟩
theorem FineX.prim (hT : GoodT L) {n : Nat} {sub : F4} (hS : FineF n sub) : FineX (prim4 L n sub) := by
  intro s h
  unfold prim4 at h ⊢
  by_cases hb : is4 L ⟨#[40]⟩ s = true
  · rw [if_pos hb] at h ⊢
    simp only at h ⊢
    obtain ⟨k1, k2, k3⟩ := FineX.exprN hS _ (er_want h)
    exact ⟨k1, k2, by rw [nm_want, k3]; rfl⟩
  · rw [if_neg hb] at h ⊢
    simp only at h ⊢
    have nam : ∀ p : S4, p.er = (primP4 L s).er → p.names = s.names → (named4 L (exprN4 L n sub) (cur4 L s).at_ p).2.er = 0 → s.er = 0 ∧ wfE (named4 L (exprN4 L n sub) (cur4 L s).at_ p).1 = true ∧ (named4 L (exprN4 L n sub) (cur4 L s).at_ p).2.names = s.names := fun p e1 e2 h2 => by
      obtain ⟨k1, k2, k3⟩ := named_fine hT (FineX.exprN hS) _ p h2
      exact ⟨primP_er (by rw [← e1]; exact k1), k2, by rw [k3, e2]⟩
    by_cases hp : (primP4 L s).er = 0
    · rw [if_pos hp] at h ⊢
      by_cases c1 : (cur4 L s).kind = 3
      · rw [if_pos c1] at h ⊢
        exact ⟨primP_er hp, wf_leaf _ _ _ _ (by kernel_rfl) rfl, primP_nm s⟩
      rw [if_neg c1] at h ⊢
      by_cases c2 : is4 L ⟨#[116, 114, 117, 101]⟩ (primP4 L s) = true
      · rw [if_pos c2] at h ⊢
        exact ⟨primP_er hp, wf_leaf _ _ _ _ (by kernel_rfl) rfl, primP_nm s⟩
      rw [if_neg c2] at h ⊢
      by_cases c3 : is4 L ⟨#[102, 97, 108, 115, 101]⟩ (primP4 L s) = true
      · rw [if_pos c3] at h ⊢
        exact ⟨primP_er hp, wf_leaf _ _ _ _ (by kernel_rfl) rfl, primP_nm s⟩
      rw [if_neg c3] at h ⊢
      by_cases c4 : is4 L ⟨#[105, 102]⟩ (primP4 L s) = true
      · rw [if_pos c4] at h ⊢
        obtain ⟨k1, k2, k3⟩ := if_fine (FineX.exprN hS) _ _ h
        exact ⟨primP_er hp, k2, by rw [k3]; exact primP_nm s⟩
      rw [if_neg c4] at h ⊢
      by_cases c5 : is4 L ⟨#[109, 101, 114, 103, 101]⟩ (primP4 L s) = true
      · rw [if_pos c5] at h ⊢
        obtain ⟨k1, k2, k3⟩ := merge_fine hT (FineX.deep hS.prim (fun _ h => h)) _ _ h
        exact ⟨primP_er hp, k2, by rw [k3]; exact primP_nm s⟩
      rw [if_neg c5] at h ⊢
      exact nam _ rfl (primP_nm s) h
    · rw [if_neg hp] at h ⊢
      exact nam _ rfl (primP_nm s) h
theorem FineF.up {n : Nat} {sub : F4} (hT : GoodT L) (hS : FineF n sub) : FineF (n + 1) (mk4 L n sub) := by
  have hp := FineX.prim hT hS
  have hu := FineX.un (L := L) hS hp
  have hf := FineX.fby hS hT hu
  have ha := FineX.arrow (L := L) hS hf
  refine ⟨fun _ => ?_, fun _ => ?_, fun _ => ?_, fun _ => ?_⟩
  · simp only [mk4]
    exact ha
  · simp only [mk4]
    exact hf
  · simp only [mk4]
    exact hu
  · simp only [mk4]
    exact hp
theorem FineF.lev (hT : GoodT L) : ∀ n, FineF (n + 1) (lev4 L n)
  | 0 => FineF.up hT ⟨fun h => absurd rfl h, fun h => absurd rfl h, fun h => absurd rfl h, fun h => absurd rfl h⟩
  | n + 1 => FineF.up hT (FineF.lev hT n)
theorem FineX.expr (hT : GoodT L) : FineX (expr4 L) := fun s h => FineX.exprN (FineF.lev hT 29) s h
end
end Go.Proofs.Ytejljfoacbpliaa

namespace Go.Proofs.Ytejljfoacbpliaa
open Go Go.RowKit
def kindOf6 (l : List Nd) (i : Nat) (e : Ex) : Int :=
  if (names6 (l.take i) (l.getD i ndZ6) e (0, 0)).1 ≠ 0 then 0 else
  if (kind6 l (l.getD i ndZ6) e (0, 0)).2.1 ≠ 0 then 0 else (kind6 l (l.getD i ndZ6) e (0, 0)).1
theorem fl6_zero {b : Nat × Nat} {e a : Nat} (he : e ≠ 0) (h : (fl6 b e a).1 = 0) : False := by
  unfold fl6 at h
  by_cases hb : b.1 = 0
  · rw [if_pos hb] at h; exact he h
  · rw [if_neg hb] at h; exact hb h
theorem own6_zero {ah : List Nd} {n : Nd} {op nm : ByteArray} {kl a : Nat} {b : Nat × Nat} (h : (own6 ah n op nm kl a b).1 = 0) :
    own6 ah n op nm kl a b = b ∧ (op.data.toList = [99, 97, 108, 108] → ∃ k, nodeOf6 nm.data.toList ah 0 = some k ∧ (ah.getD k ndZ6).outs.length = 1 ∧ (ah.getD k ndZ6).ins.length = kl) ∧
    ((op.data.toList = [118, 97, 114] ∨ op.data.toList = [119, 104, 101, 110] ∨ op.data.toList = [109, 101, 114, 103, 101]) → (find6 nm.data.toList (vars6 n)).isSome = true) := by
  unfold own6 at h ⊢
  split at h
  · rename_i hv
    rw [if_pos hv]
    split at h
    · rename_i hf
      rw [if_pos hf]
      exact ⟨rfl, fun hc => by rw [hc] at hv; simp at hv, fun _ => hf⟩
    · exact (fl6_zero (by decide) h).elim
  · rename_i hv
    rw [if_neg hv]
    split at h
    · rename_i hc
      rw [if_pos hc]
      split at h
      · exact (fl6_zero (by decide) h).elim
      · rename_i k hk
        rw [hk]
        split at h
        · rename_i hx
          rw [if_pos hx]
          exact ⟨rfl, fun _ => ⟨k, rfl, hx⟩, fun h => (hv h).elim⟩
        · exact (fl6_zero (by decide) h).elim
    · rename_i hc
      rw [if_neg hc]
      exact ⟨rfl, fun h => (hc h).elim, fun h => (hv h).elim⟩
mutual
theorem names6_zero (ah : List Nd) (n : Nd) : ∀ (e : Ex) (b : Nat × Nat), (names6 ah n e b).1 = 0 → names6 ah n e b = b ∧ b.1 = 0
  | .mk op nm nn at_ kids, b, h => by
    unfold names6 at h ⊢
    obtain ⟨h1, h2⟩ := namesL6_zero ah n kids _ h
    rw [h1]
    have h3 := own6_zero h2
    rw [h3.1] at h2 ⊢
    exact ⟨rfl, h2⟩
theorem namesL6_zero (ah : List Nd) (n : Nd) : ∀ (r : List Ex) (b : Nat × Nat), (namesL6 ah n r b).1 = 0 → namesL6 ah n r b = b ∧ b.1 = 0
  | [], b, h => by unfold namesL6 at h ⊢; exact ⟨rfl, h⟩
  | e :: r, b, h => by
    unfold namesL6 at h ⊢
    obtain ⟨h1, h2⟩ := namesL6_zero ah n r _ h
    obtain ⟨h3, h4⟩ := names6_zero ah n e _ h2
    rw [h1, h3]
    exact ⟨rfl, h4⟩
end
theorem own6_start {ah : List Nd} {n : Nd} {op nm : ByteArray} {kl a : Nat} {b : Nat × Nat} (h : (own6 ah n op nm kl a b).1 = 0) (b' : Nat × Nat) : own6 ah n op nm kl a b' = b' := by
  unfold own6 at h ⊢
  split at h
  · rename_i hv
    rw [if_pos hv]
    split at h
    · rename_i hf
      rw [if_pos hf]
    · exact (fl6_zero (by decide) h).elim
  · rename_i hv
    rw [if_neg hv]
    split at h
    · rename_i hc
      rw [if_pos hc]
      split at h
      · exact (fl6_zero (by decide) h).elim
      · split at h
        · rename_i hx
          rw [if_pos hx]
        · exact (fl6_zero (by decide) h).elim
    · rename_i hc
      rw [if_neg hc]
mutual
theorem names6_start (ah : List Nd) (n : Nd) : ∀ (e : Ex) (b b' : Nat × Nat), (names6 ah n e b).1 = 0 → names6 ah n e b' = b'
  | .mk op nm nn at_ kids, b, b', h => by
    unfold names6 at h ⊢
    obtain ⟨_, h2⟩ := namesL6_zero ah n kids _ h
    rw [own6_start h2 b']
    exact namesL6_start ah n kids _ b' h
theorem namesL6_start (ah : List Nd) (n : Nd) : ∀ (r : List Ex) (b b' : Nat × Nat), (namesL6 ah n r b).1 = 0 → namesL6 ah n r b' = b'
  | [], _, _, _ => by unfold namesL6; rfl
  | e :: r, b, b', h => by
    unfold namesL6 at h ⊢
    obtain ⟨_, h2⟩ := namesL6_zero ah n r _ h
    rw [names6_start ah n e b b' h2]
    exact namesL6_start ah n r _ b' h
end
theorem nodeOf6_app (s : List UInt8) (b : List Nd) : ∀ (a : List Nd) (j k : Nat), nodeOf6 s a j = some k → nodeOf6 s (a ++ b) j = some k
  | [], j, k, h => by simp [nodeOf6] at h
  | n :: r, j, k, h => by
    unfold nodeOf6 at h
    rw [List.cons_append]
    unfold nodeOf6
    split at h
    · rename_i hs; rw [if_pos hs]; exact h
    · rename_i hs; rw [if_neg hs]; exact nodeOf6_app s b r (j + 1) k h
theorem arity6 {op : List UInt8} {n : Nat} (h : arOk op n = true) : need6 op ≤ n := by
  unfold arOk at h
  simp only [Bool.or_eq_true, beq_iff_eq, ARITY4, List.contains_cons, List.contains_nil, Bool.or_false, Prod.mk.injEq] at h
  rcases h with h | ⟨rfl, rfl⟩ | ⟨rfl, rfl⟩ | ⟨rfl, rfl⟩ | ⟨rfl, rfl⟩ | ⟨rfl, rfl⟩ | ⟨rfl, rfl⟩ | ⟨rfl, rfl⟩ | ⟨rfl, rfl⟩ | ⟨rfl, rfl⟩ | ⟨rfl, rfl⟩ | ⟨rfl, rfl⟩ | ⟨rfl, rfl⟩ | ⟨rfl, rfl⟩ | ⟨rfl, rfl⟩ | ⟨rfl, rfl⟩ | ⟨rfl, rfl⟩ | ⟨rfl, rfl⟩ | ⟨rfl, rfl⟩ | ⟨rfl, rfl⟩ | ⟨rfl, rfl⟩ | ⟨rfl, rfl⟩ | ⟨rfl, rfl⟩ | ⟨rfl, rfl⟩ | ⟨rfl, rfl⟩ | ⟨rfl, rfl⟩
  · subst h; exact Nat.zero_le _
  all_goals decide
mutual
theorem wk6_of (l : List Nd) (i : Nat) (n : Nd) : ∀ (e : Ex) (b : Nat × Nat), wfE e = true → (names6 (l.take i) n e b).1 = 0 → wk6 l e
  | .mk op nm nn at_ kids, b, hw, h => by
    rw [wfE_eq] at hw
    simp only [Bool.and_eq_true] at hw
    unfold names6 at h
    obtain ⟨_, h2⟩ := namesL6_zero _ n kids _ h
    have h3 := own6_zero h2
    unfold wk6
    refine ⟨arity6 hw.1, fun hc => ?_, wks6_of l i n kids _ hw.2.2 h⟩
    obtain ⟨k, hk, ho, hn⟩ := h3.2.1 hc
    have hlt := (nodeOf6_lt _ _ _ _ hk).2
    rw [Nat.zero_add, List.length_take] at hlt
    have hg : (l.take i).getD k ndZ6 = l[k]'(by omega) := by simp [List.getD, List.getElem?_take, show k < i by omega, show k < l.length by omega]
    rw [hg] at ho hn
    refine ⟨k, by omega, ?_, by omega, by omega⟩
    have := nodeOf6_app _ (l.drop i) _ _ _ hk
    rwa [List.take_append_drop] at this
theorem wks6_of (l : List Nd) (i : Nat) (n : Nd) : ∀ (r : List Ex) (b : Nat × Nat), wfEs r = true → (namesL6 (l.take i) n r b).1 = 0 → wks6 l r
  | [], _, _, _ => by unfold wks6; trivial
  | e :: r, b, hw, h => by
    rw [wfEs_cons] at hw
    simp only [Bool.and_eq_true] at hw
    unfold namesL6 at h
    obtain ⟨_, h2⟩ := namesL6_zero _ n r _ h
    unfold wks6
    exact ⟨wk6_of l i n e b hw.1 h2, wks6_of l i n r _ hw.2 h⟩
end
end Go.Proofs.Ytejljfoacbpliaa

namespace Go.Proofs.Ytejljfoacbpliaa
open Go Go.RowKit
def GivesEo (n : Nd) (s : List UInt8) (w : World) (e : Ending) (w' : World) : Prop := ∃ xq cq, e = .returned (.tuple #[.agg (qeC ((eqOf6 s n.eqs).getD qeZ).name ((eqOf6 s n.eqs).getD qeZ).e xq cq (((eqOf6 s n.eqs).getD qeZ).at_ : Int)).toArray, .bool (eqOf6 s n.eqs).isSome]) ∧ Below w.heap.size w w'
theorem build_q60 (W : World) : (Instr.build 55 #[]).run Try.prog W = .ok (.agg #[.string ⟨#[]⟩, .string ⟨#[]⟩, .string ⟨#[]⟩, .int .i64 0, .int .i64 0, .slice none 0 0, .int .i64 0]) W := by kernel_rfl
theorem q6_one (a b d : ByteArray) (n p t : Int) (x : Option Addr) (l c : Nat) : (#[.string a, .string b, .string d, .int .i64 n, .int .i64 p, .slice x l c, .int .i64 t] : Array Value).all (·.oneCell') = true := by simp [Value.oneCell']
set_option maxHeartbeats 4000000 in
set_option maxRecDepth 100000 in
theorem EqOf_any (n : Nd) (s : ByteArray) (w : World) (ok : Nat → Prop) (xi xo xl xe : Option Addr) (ci co cl ce : Nat) (hkn : NdIn ok w n xi xo xl xe ci co cl ce) : Calls Try.prog 83 #[ndV n xi xo xl xe ci co cl ce, .string s] w (GivesEo n s.data.toList w) := by
  have HSQ := Lib.hid size_q4
  have F0 := ((Fx.start w).alloc w.heap.size rfl 38 #[.string n.name, .slice xi n.ins.length ci, .slice xo n.outs.length co, .slice xl n.locs.length cl, .slice xe n.eqs.length ce, .int .i64 (n.at_ : Int)]).alloc (w.heap.size + 1) (by simp) 55 #[.string ⟨#[]⟩, .string ⟨#[]⟩, .string ⟨#[]⟩, .int .i64 0, .int .i64 0, .slice none 0 0, .int .i64 0]
  have HD := Lib.hid (IsD.below F0.below hkn.2.2.2)
  have HFEW := Lib.hid (IsD.few hkn.2.2.2)
  obtain ⟨R, hR⟩ : ∃ R, R = eqOf6 s.data.toList n.eqs := ⟨_, rfl⟩
  have HR := Lib.hid hR
  obtain ⟨W0, hW0⟩ : ∃ W0, W0 = (w.alloc (.cells #[.string n.name, .slice xi n.ins.length ci, .slice xo n.outs.length co, .slice xl n.locs.length cl, .slice xe n.eqs.length ce, .int .i64 (n.at_ : Int)] 38)).alloc (.cells #[.string ⟨#[]⟩, .string ⟨#[]⟩, .string ⟨#[]⟩, .int .i64 0, .int .i64 0, .slice none 0 0, .int .i64 0] 55) := ⟨_, rfl⟩
  rw [← hW0] at HD F0
  have n4 := cell_of_row W0 w.heap.size 4 _ _ _ (F0.get 0 rfl)
  have HF0 := Lib.hid F0
  have HW0 := Lib.hid hW0
  unfold GivesEo
  rw [← hR]
  clear hkn hR F0 hW0
  unfold ndV
  go_enter Try.func83, Try.ntmps83
  go_upto_region 1 with fail
  rw [← HW0.out]
  go_wp2_with fail
  go_loopw [6] (fun v6 wr => ∃ (i : Nat), v6 = .int .i64 (i : Int) ∧ i ≤ n.eqs.length ∧ wr = W0 ∧ R = eqOf6 s.data.toList (n.eqs.drop i))
    (fun v6 _ => n.eqs.length - (intOf v6).toNat)
  case atStart => exact ⟨0, rfl, Nat.zero_le _, rfl, HR.out⟩
  case round =>
    clear HR
    obtain ⟨i, rfl, hi, hw, hq⟩ := hrel
    subst hw
    have HI := Lib.hid hi
    clear hi
    by_cases hil : i < n.eqs.length
    · have d1 : decide ((i : Int) < (n.eqs.length : Int)) = true := by simp; omega
      have HIL := Lib.hid hil
      rw [List.drop_eq_getElem_cons hil] at hq
      obtain ⟨g, rfl, _, xq, cq, hrg, hkq⟩ := qe_at HD.out i hil
      obtain ⟨q, hqq⟩ : ∃ q, q = n.eqs[i]'HIL.out := ⟨_, rfl⟩
      rw [← hqq] at hrg hq hkq
      have c0 : wr.cell? ⟨g, i * 7, none⟩ = some (.string q.name) := hrg 0 _ rfl
      have i0 : (0 : Int) ≤ (i : Int) := by omega
      have i1 : (i : Int) < (n.eqs.length : Int) := by omega
      unfold eqOf6 at hq
      by_cases hs : q.name.data.toList = s.data.toList
      · rw [if_pos hs] at hq
        have e1 := eq_txt hs
        have HQ := Lib.hid hq
        have HRG := Lib.hid hrg
        have HL1 := Lib.hid (HF0.out.get 1 rfl)
        have HB := Lib.hid HF0.out.below
        clear hil hrg hs hq hkq hqq
        go_wp2_with (first | (refine wpList_load_mid rfl 55 (.tmp 25) rfl g (i * 7) rfl (qeC q.name q.e xq cq (q.at_ : Int)) _ ?_ Try.underlying55 rfl HSQ.out ?_; (exact HRG.out)) | (refine wpList_store_row rfl 55 (.tmp 4) (.tmp 26) rfl (w.heap.size + 1) #[.string q.name, .string q.e.op, .string q.e.name, .int .i64 q.e.n, .int .i64 (q.e.at_ : Int), .slice xq q.e.kids.length cq, .int .i64 (q.at_ : Int)] rfl rfl 55 #[.string ⟨#[]⟩, .string ⟨#[]⟩, .string ⟨#[]⟩, .int .i64 0, .int .i64 0, .slice none 0 0, .int .i64 0] ?_ HSQ.out rfl (q6_one _ _ _ _ _ _ _ _ _) ?_; (exact HL1.out)))
        refine bodyPost_ret (results_cell_tmp6 (q := 5) (p := 4) (ty := 55) rfl _ _ (w.heap.size + 1) 55 #[.string q.name, .string q.e.op, .string q.e.name, .int .i64 q.e.n, .int .i64 (q.e.at_ : Int), .slice xq q.e.kids.length cq, .int .i64 (q.at_ : Int)] (0, 0) _ rfl (setRow_heap _ (w.heap.size + 1) _ _ _ _ HL1.out) Try.underlying55 rfl HSQ.out) rfl ?_
        rw [HQ.out]
        exact ⟨xq, cq, rfl, below_setRow HB.out (by omega) _⟩
      · rw [if_neg hs] at hq
        have e1 := ne_txt hs
        have HQ := Lib.hid hq
        clear hil hrg hs hq hkq hqq
        go_wp2_with fail
        refine ⟨⟨i + 1, wrap_succ (by have := HIL.out; have := HFEW.out; omega), HIL.out, by trivial, HQ.out⟩, ?_⟩
        rw [wrap_succ (by have := HIL.out; have := HFEW.out; omega)]
        have := HIL.out
        simp [intOf]; omega
    · have d1 : decide ((i : Int) < (n.eqs.length : Int)) = false := by simp; omega
      obtain rfl : i = n.eqs.length := by have := HI.out; omega
      rw [List.drop_length] at hq
      have HQ := Lib.hid (show R = none from hq)
      have HL1 := Lib.hid (HF0.out.get 1 rfl)
      have HB := Lib.hid HF0.out.below
      have bz := build_q60
      clear hil hq
      go_wp2_with (refine wpList_store_row rfl 55 (.tmp 4) (.tmp 27) rfl (w.heap.size + 1) #[.string ⟨#[]⟩, .string ⟨#[]⟩, .string ⟨#[]⟩, .int .i64 0, .int .i64 0, .slice none 0 0, .int .i64 0] rfl rfl 55 #[.string ⟨#[]⟩, .string ⟨#[]⟩, .string ⟨#[]⟩, .int .i64 0, .int .i64 0, .slice none 0 0, .int .i64 0] ?_ HSQ.out rfl (q6_one _ _ _ _ _ _ _ _ _) ?_; (exact HL1.out))
      refine bodyPost_ret (results_cell_tmp6 (q := 5) (p := 4) (ty := 55) rfl _ _ (w.heap.size + 1) 55 #[.string ⟨#[]⟩, .string ⟨#[]⟩, .string ⟨#[]⟩, .int .i64 0, .int .i64 0, .slice none 0 0, .int .i64 0] (0, 0) _ rfl (setRow_heap _ (w.heap.size + 1) _ _ _ _ HL1.out) Try.underlying55 rfl HSQ.out) rfl ?_
      rw [HQ.out]
      exact ⟨none, 0, rfl, below_setRow HB.out (by omega) _⟩
end Go.Proofs.Ytejljfoacbpliaa

namespace Go.Proofs.Ytejljfoacbpliaa
open Go Go.RowKit
section
variable {P : Program} {Q : Exit → Act → World → Prop} {md : Region.Mode}
def StepW (P : Program) (md : Region.Mode) (Q : Exit → Act → World → Prop) (l : List Oper) (Sp : Nat → Value → World → Prop) (B : Nat) (w0 : World) (a0 : Act) (i : Nat) (o : Oper) : Prop :=
  ∀ (a : Act) (W : World), Below B w0 W → B ≤ W.heap.size → (∀ j, (∀ x ∈ l, x.dst ≠ some j) → a.tmps.getD j undef = a0.tmps.getD j undef) →
    (∀ e ∈ o.after.toList, Region.binds md e = true → ∀ x, l[e.on]? = some x → ∀ d, x.dst = some d → d < a.tmps.size ∧ Sp e.on (a.tmps.getD d undef) W) →
    wpOp P l.toArray Q i (fun a' W' => ∃ v, a' = a.put o.dst v ∧ Sp i v W' ∧ Below B W W' ∧ W.heap.size ≤ W'.heap.size) a W
def StepsW (P : Program) (md : Region.Mode) (Q : Exit → Act → World → Prop) (l : List Oper) (Sp : Nat → Value → World → Prop) (B : Nat) (w0 : World) (a0 : Act) (kw : Nat) : Nat → List Oper → Prop
  | _, [] => True
  | i, o :: r => (if i = kw then StepW P md Q l Sp B w0 a0 i o else Step P md Q l l Sp B w0 a0 i o) ∧ StepsW P md Q l Sp B w0 a0 kw (i + 1) r
variable {l : List Oper} {Sp : Nat → Value → World → Prop} {B : Nat} {w0 : World} {a0 : Act} {kw : Nat}
theorem StepsW.cons {i : Nat} {o : Oper} {r : List Oper} (h : Step P md Q l l Sp B w0 a0 i o) (hr : StepsW P md Q l Sp B w0 a0 kw (i + 1) r) (hne : i ≠ kw := by decide) : StepsW P md Q l Sp B w0 a0 kw i (o :: r) := ⟨by rw [if_neg hne]; exact h, hr⟩
theorem StepsW.weak {o : Oper} {r : List Oper} (h : StepW P md Q l Sp B w0 a0 kw o) (hr : StepsW P md Q l Sp B w0 a0 kw (kw + 1) r) : StepsW P md Q l Sp B w0 a0 kw kw (o :: r) := ⟨by rw [if_pos rfl]; exact h, hr⟩
theorem StepsW.nil {i : Nat} : StepsW P md Q l Sp B w0 a0 kw i [] := trivial
def asks (md : Region.Mode) (l : List Oper) (D : List Nat) (kw : Nat) : Bool := (List.range l.length).all fun i => match l[i]? with
  | some o => i == kw || !(o.after.toList.any fun e => Region.binds md e && D.contains e.on) || (match l[kw]? with
    | some k => k.after.toList.any fun e => Region.binds md e && e.on == i
    | none => false)
  | none => true
structure InvW (md : Region.Mode) (l : List Oper) (Sp : Nat → Value → World → Prop) (B : Nat) (w0 : World) (a0 : Act) (D : List Nat) (kw : Nat) (listed : Array Bool) (a : Act) (W : World) : Prop where
  size : listed.size = l.length
  below : Below B w0 W
  base : B ≤ W.heap.size
  defers : a.defers = a0.defers
  tmps : a.tmps.size = a0.tmps.size
  old : ∀ j, (∀ x ∈ l, x.dst ≠ some j) → a.tmps.getD j undef = a0.tmps.getD j undef
  new : ∀ i x d, l[i]? = some x → listed.getD i false = true → x.dst = some d → (i ∈ D → listed.getD kw false = false) → Sp i (a.tmps.getD d undef) W
  closed : ∀ i, listed.getD i false = true → ∀ o, l[i]? = some o → ∀ e ∈ o.after.toList, Region.binds md e = true → listed.getD e.on false = true
end
end Go.Proofs.Ytejljfoacbpliaa

namespace Go.Proofs.Ytejljfoacbpliaa
open Go Go.RowKit
section
variable {P : Program} {Q : Exit → Act → World → Prop} {md : Region.Mode}
def StepX (R : World → World → Prop) (P : Program) (md : Region.Mode) (Q : Exit → Act → World → Prop) (l : List Oper) (Sp : Nat → Value → World → Prop) (B : Nat) (w0 : World) (a0 : Act) (i : Nat) (o : Oper) : Prop :=
  ∀ (a : Act) (W : World), Below B w0 W → B ≤ W.heap.size → (∀ j, (∀ x ∈ l, x.dst ≠ some j) → a.tmps.getD j undef = a0.tmps.getD j undef) →
    (∀ e ∈ o.after.toList, Region.binds md e = true → ∀ x, l[e.on]? = some x → ∀ d, x.dst = some d → d < a.tmps.size ∧ Sp e.on (a.tmps.getD d undef) W) →
    wpOp P l.toArray Q i (fun a' W' => ∃ v, a' = a.put o.dst v ∧ Sp i v W' ∧ Below B W W' ∧ W.heap.size ≤ W'.heap.size ∧ R W W') a W
def StepsX (R : World → World → Prop) (P : Program) (md : Region.Mode) (Q : Exit → Act → World → Prop) (l : List Oper) (Sp : Nat → Value → World → Prop) (B : Nat) (w0 : World) (a0 : Act) (kw : Nat) : Nat → List Oper → Prop
  | _, [] => True
  | i, o :: r => (if i = kw then StepX R P md Q l Sp B w0 a0 i o else Step P md Q l l Sp B w0 a0 i o) ∧ StepsX R P md Q l Sp B w0 a0 kw (i + 1) r
variable {R : World → World → Prop} {l : List Oper} {Sp : Nat → Value → World → Prop} {B : Nat} {w0 : World} {a0 : Act} {kw : Nat}
theorem StepsX.cons {i : Nat} {o : Oper} {r : List Oper} (h : Step P md Q l l Sp B w0 a0 i o) (hr : StepsX R P md Q l Sp B w0 a0 kw (i + 1) r) (hne : i ≠ kw := by decide) : StepsX R P md Q l Sp B w0 a0 kw i (o :: r) := ⟨by rw [if_neg hne]; exact h, hr⟩
theorem StepsX.weak {o : Oper} {r : List Oper} (h : StepX R P md Q l Sp B w0 a0 kw o) (hr : StepsX R P md Q l Sp B w0 a0 kw (kw + 1) r) : StepsX R P md Q l Sp B w0 a0 kw kw (o :: r) := ⟨by rw [if_pos rfl]; exact h, hr⟩
theorem StepsX.nil {i : Nat} : StepsX R P md Q l Sp B w0 a0 kw i [] := trivial
theorem StepsX.at_ : ∀ (r : List Oper) (i : Nat), StepsX R P md Q l Sp B w0 a0 kw i r → ∀ (k : Nat) (o : Oper), r[k]? = some o → if i + k = kw then StepX R P md Q l Sp B w0 a0 (i + k) o else Step P md Q l l Sp B w0 a0 (i + k) o
  | [], _, _, k, o, h => by simp at h
  | x :: r, i, hs, 0, o, h => by
    simp only [List.getElem?_cons_zero, Option.some.injEq] at h
    subst h
    exact hs.1
  | x :: r, i, hs, k + 1, o, h => by
    have := StepsX.at_ r (i + 1) hs.2 k o (by simpa using h)
    rwa [show i + 1 + k = i + (k + 1) by omega] at this
theorem wpAny_stepsX {D : List Nat} (hst : ∀ i v W W', Sp i v W → Below W.heap.size W W' → Sp i v W') (hsw : ∀ i v W W', i ≠ kw → i ∉ D → Sp i v W → Below B W W' → R W W' → Sp i v W') (hk : kw ∉ D) (h1 : single l = true) (h2 : within l a0.tmps.size = true) (h3 : aheadOps md l = true) (h4 : asks md l D kw = true)
    (hs : StepsX R P md Q l Sp B w0 a0 kw 0 l)
    (hdone : ∀ a W, InvW md l Sp B w0 a0 D kw (Array.replicate l.length true) a W → Q .normal a W) :
    ∀ (fuel : Nat) (listed : Array Bool) (a : Act) (W : World), InvW md l Sp B w0 a0 D kw listed a W → listed.toList.count false ≤ fuel → wpAny P md l.toArray Q fuel listed a W := by
  have empty : ∀ (listed : Array Bool), listed.size = l.length → Region.ready md l.toArray listed = [] → listed = Array.replicate l.length true := by
    intro listed hsz hr
    have all : ∀ n i, i < n → i < l.length → listed.getD i false = true := by
      intro n
      induction n with
      | zero => intro i hi; omega
      | succ n ih =>
        intro i hi hil
        by_cases hin : i < n
        · exact ih i hin hil
        · cases hb : listed.getD i false with
          | true => rfl
          | false =>
            have hlt : i < listed.size := by omega
            have hmem : i ∈ Region.ready md l.toArray listed := by
              rw [mem_ready]
              refine ⟨by simpa [Array.getD, hlt] using hb, l[i], by simp [hil], fun e he hbe => ?_⟩
              have hlt' := aheadOps_spec h3 (i := i) (o := l[i]) (by simp [hil]) (Array.mem_toList_iff.2 he) hbe
              exact ih e.on (by omega) (by omega)
            rw [hr] at hmem
            cases hmem
    apply Array.ext
    · simp [hsz]
    · intro i hi1 hi2
      have := all (i + 1) i (Nat.lt_succ_self _) (by omega)
      simpa [Array.getD, hi1] using this
  intro fuel
  induction fuel with
  | zero =>
    intro listed a W hI hc
    have hr : Region.ready md l.toArray listed = [] := by
      cases hr : Region.ready md l.toArray listed with
      | nil => rfl
      | cons j js =>
        have hj : j ∈ Region.ready md l.toArray listed := by rw [hr]; exact List.mem_cons_self ..
        rw [mem_ready] at hj
        have hlt : j < listed.size := by
          rcases Nat.lt_or_ge j listed.size with h' | h'
          · exact h'
          · have := hj.1; simp [Array.getD, Nat.not_lt.2 h'] at this
        have hf : listed[j] = false := by simpa [Array.getD, hlt] using hj.1
        have hpos : 0 < listed.toList.count false := List.count_pos_iff.2 (by rw [← hf]; simp)
        omega
    refine ⟨hr, hdone a W ?_⟩
    rw [← empty listed hI.size hr]
    exact hI
  | succ fuel ih =>
    intro listed a W hI hc
    refine ⟨fun hr => hdone a W (by rw [← empty listed hI.size hr]; exact hI), fun i hi => ?_⟩
    rw [mem_ready] at hi
    obtain ⟨hf, o, ho, hpre⟩ := hi
    have hio : l[i]? = some o := by simpa using ho
    have hil : i < l.length := (List.getElem?_eq_some_iff.1 hio).1
    have hils : i < listed.size := by rw [hI.size]; exact hil
    have hff : listed.getD i false = false := by simpa [Array.getD, hils] using hf
    have hst' := StepsX.at_ l 0 hs i o hio
    rw [Nat.zero_add] at hst'
    have hcnt := count_set hf
    -- a word of D is asked for only while kw has not run
    have alive : ∀ e ∈ o.after.toList, Region.binds md e = true → e.on ∈ D → listed.getD kw false = false := by
      intro e he hb hD
      by_cases hik : i = kw
      · subst hik; exact hff
      · cases hkl : listed.getD kw false with
        | false => rfl
        | true =>
          exfalso
          unfold asks at h4
          rw [List.all_eq_true] at h4
          have h := h4 i (List.mem_range.2 hil)
          simp only [hio] at h
          have hany : (o.after.toList.any fun e => Region.binds md e && D.contains e.on) = true := List.any_eq_true.2 ⟨e, he, by rw [hb]; simpa using hD⟩
          have hne : (i == kw) = false := by simpa using hik
          rw [hany, hne] at h
          simp only [Bool.not_true, Bool.or_false, Bool.false_or] at h
          cases hko : l[kw]? with
          | none => rw [hko] at h; cases h
          | some k =>
            rw [hko] at h
            obtain ⟨e2, he2, h5⟩ := List.any_eq_true.1 h
            rw [Bool.and_eq_true, beq_iff_eq] at h5
            have := hI.closed kw hkl k hko e2 he2 h5.1
            rw [h5.2, hff] at this
            cases this
    have pre : ∀ e ∈ o.after.toList, Region.binds md e = true → ∀ x, l[e.on]? = some x → ∀ d, x.dst = some d → d < a.tmps.size ∧ Sp e.on (a.tmps.getD d undef) W := fun e he hb x hx d hd =>
      ⟨by rw [hI.tmps]; exact within_spec h2 (List.mem_of_getElem? hx) hd, hI.new e.on x d hx (hpre e (Array.mem_toList_iff.1 he) hb) hd (alive e he hb)⟩
    have closed' : ∀ j, (listed.setIfInBounds i true).getD j false = true → ∀ x, l[j]? = some x → ∀ e ∈ x.after.toList, Region.binds md e = true → (listed.setIfInBounds i true).getD e.on false = true := by
      intro j hj x hx e he hb'
      have mono : ∀ k, listed.getD k false = true → (listed.setIfInBounds i true).getD k false = true := by
        intro k hk
        by_cases hki : k = i
        · subst hki
          simp [Array.getD, hils]
        · rw [getD_set_ne _ (Ne.symm hki)]
          exact hk
      by_cases hji : j = i
      · subst hji
        rw [hio] at hx
        injection hx with hx
        subst hx
        exact mono _ (hpre e (Array.mem_toList_iff.1 he) hb')
      · rw [getD_set_ne _ (Ne.symm hji)] at hj
        exact mono _ (hI.closed j hj x hx e he hb')
    by_cases hik : i = kw
    · rw [if_pos hik] at hst'
      refine wpOp_mono ?_ (hst' a W hI.below hI.base hI.old pre)
      rintro a' W' ⟨v, rfl, hv, hb, hsz, hR⟩
      refine ih _ _ _ ⟨by simpa using hI.size, hI.below.trans hb, Nat.le_trans hI.base hsz, put_defers.trans hI.defers, put_size.trans hI.tmps, fun j hj => ?_, fun k x d hk' hl hd hD => ?_, closed'⟩ (by omega)
      · rw [put_other (hj o (List.mem_of_getElem? hio)), hI.old j hj]
      · have hkD : k ∉ D := fun h => by
          have := hD h
          rw [← hik] at this
          simp [Array.getD, hils] at this
        by_cases hki : k = i
        · subst hki
          rw [hio] at hk'
          injection hk' with hk'
          subst hk'
          rw [hd, put_same (by rw [hI.tmps]; exact within_spec h2 (List.mem_of_getElem? hio) hd)]
          exact hv
        · rw [put_other (fun e => hki (single_spec h1 hk' hio hd e))]
          rw [getD_set_ne _ (Ne.symm hki)] at hl
          exact hsw _ _ _ _ (fun e => hki (e.trans hik.symm)) hkD (hI.new k x d hk' hl hd (fun h => absurd h hkD)) hb hR
    · rw [if_neg hik] at hst'
      refine wpOp_mono ?_ (hst' a W hI.below hI.base hI.old pre)
      rintro a' W' ⟨v, rfl, hv, hb⟩
      refine ih _ _ _ ⟨by simpa using hI.size, hI.below.trans (hb.mono hI.base), Nat.le_trans hI.base hb.size, put_defers.trans hI.defers, put_size.trans hI.tmps, fun j hj => ?_, fun k x d hk' hl hd hD => ?_, closed'⟩ (by omega)
      · rw [put_other (hj o (List.mem_of_getElem? hio)), hI.old j hj]
      · by_cases hki : k = i
        · subst hki
          rw [hio] at hk'
          injection hk' with hk'
          subst hk'
          rw [hd, put_same (by rw [hI.tmps]; exact within_spec h2 (List.mem_of_getElem? hio) hd)]
          exact hv
        · rw [put_other (fun e => hki (single_spec h1 hk' hio hd e))]
          rw [getD_set_ne _ (Ne.symm hki)] at hl
          rw [getD_set_ne _ (fun h => hik h)] at hD
          exact hst _ _ _ _ (hI.new k x d hk' hl hd hD) hb
theorem wp_region_stepsX {id : Nat} {a0 : Act} {w : World} (Sp : Nat → Value → World → Prop) (B : Nat) (w0 : World) (D : List Nat) (kw : Nat) (hm : P.follows .mixedOrders = true) (hB : Below B w0 w) (hBw : B ≤ w.heap.size)
    (hst : ∀ i v W W', Sp i v W → Below W.heap.size W W' → Sp i v W') (hsw : ∀ i v W W', i ≠ kw → i ∉ D → Sp i v W → Below B W W' → R W W' → Sp i v W') (hk : kw ∉ D) (h1 : single l = true) (h2 : within l a0.tmps.size = true) (h3 : aheadOps .any l = true) (h4 : asks .any l D kw = true)
    (hs : StepsX R P .any Q l Sp B w0 a0 kw 0 l)
    (hdone : ∀ a W, InvW .any l Sp B w0 a0 D kw (Array.replicate l.length true) a W → Q .normal a W) : (Code.region id l.toArray true).wp P Q a0 w := by
  refine wp_region_any hm ?_
  have hfalse : ∀ i, (Array.replicate l.toArray.size false).getD i false = false := by
    intro i
    simp [Array.getD]
  refine wpAny_stepsX hst hsw hk h1 h2 h3 h4 hs hdone _ _ _ _ ⟨by simp, hB.drew, hBw, rfl, rfl, fun _ _ => rfl, fun i x d _ hl _ _ => ?_, fun i hi => ?_⟩ ?_
  · rw [hfalse] at hl
    cases hl
  · rw [hfalse] at hi
    cases hi
  · simp
end
end Go.Proofs.Ytejljfoacbpliaa

namespace Go.Proofs.Ytejljfoacbpliaa
open Go Go.RowKit
def u32s (l : List Nat) : List Value := l.map fun (n : Nat) => Value.int .u32 (n : Int)
def WRow (w : World) (g : Nat) (t : TypeId) (l : List Nat) : Prop := w.heap[g]? = some (.cells (u32s l).toArray t (0, 0))
theorem WRow.lt {w : World} {g : Nat} {t : TypeId} {l : List Nat} (h : WRow w g t l) : g < w.heap.size := (Array.getElem?_eq_some_iff.1 h).1
theorem WRow.below {w w' : World} {g B : Nat} {t : TypeId} {l : List Nat} (h : WRow w g t l) (hb : Below B w w') (hB : w.heap.size ≤ B) : WRow w' g t l := (hb.block g (Nat.lt_of_lt_of_le h.lt hB)).trans h
theorem WRow.cell {w : World} {g : Nat} {t : TypeId} {l : List Nat} (h : WRow w g t l) (i : Nat) (hi : i < l.length) : w.cell? ⟨g, i, none⟩ = some (.int .u32 ((l.getD i 0 : Nat) : Int)) := by
  have h' : w.heap[g]? = some (.cells (u32s l).toArray t (0, 0)) := h
  simp [World.cell?, h', u32s, hi]
theorem WRow.frozen {w : World} {g : Nat} {t : TypeId} {l : List Nat} (h : WRow w g t l) (i : Nat) : w.frozen? ⟨g, i, none⟩ = false := by
  have h' : w.heap[g]? = some (.cells (u32s l).toArray t (0, 0)) := h
  simp [World.frozen?, h']
theorem WRow.set {w : World} {g : Nat} {t : TypeId} {l : List Nat} (h : WRow w g t l) (i x : Nat) : WRow (w.setCell ⟨g, i, none⟩ (.int .u32 (x : Int))) g t (l.set i x) := by
  have h1 := heap_setCell_same w g i _ t (.int .u32 (x : Int)) h
  unfold WRow
  rw [h1]
  simp [u32s, List.map_set]
theorem WRow.drew {w : World} {g : Nat} {t : TypeId} {l : List Nat} (h : WRow w g t l) : WRow w.drew g t l := h
theorem Txt.drew {w : World} {a : Option Addr} {l : List UInt8} (h : Txt w a l) : Txt w.drew a l := h
theorem run_storeAt_row {P : Program} (w : World) (g : Nat) (t ty : TypeId) (old cells : Array Value) (hg : w.heap[g]? = some (.cells old t (0, 0))) (hi : (P.info? ty).map (·.size) = some cells.size)
    (ho : old.size = cells.size) (h1 : cells.all (·.oneCell') = true) :
    (Instr.storeAt ty (.pointer (some ⟨g, 0, none⟩)) (.agg cells)).run P w = .ok () (w.setRow g cells) := by
  simp only [Instr.storeAt, Instr.sureAddr, Sem.run_bind, Sem.run_pure, Result.andThen_ok, run_storeVar_row w g t ty old cells hg hi ho h1]
section
variable {P : Program} (w : World) {t e : TypeId} {n : Nat} (ht : P.underlying t = some (.array n e)) (he : (P.info? e).map (·.size) = some 1)
include ht he
end
end Go.Proofs.Ytejljfoacbpliaa

namespace Go.Proofs.Ytejljfoacbpliaa
open Go Go.RowKit
theorem alloc_q4 {o : Oper} {ρ : Operand → Value} {W : World} (ho : o.op = .alloc 55) : (execOp ρ o).run Try.prog W = .ok (.value (.pointer (some ⟨W.heap.size, 0, none⟩))) (W.alloc (.cells #[.string ⟨#[]⟩, .string ⟨#[]⟩, .string ⟨#[]⟩, .int .i64 0, .int .i64 0, .slice none 0 0, .int .i64 0] 55)) := by
  unfold execOp
  rw [ho]
  kernel_rfl
theorem run_strow {P : Program} {W : World} {o : Oper} {ρ : Operand → Value} {ty : TypeId} {x y : Operand} (ho : o.op = .store ty x y) {g : Nat} {t : TypeId} {old cells : Array Value} (hx : ρ x = .pointer (some ⟨g, 0, none⟩)) (hy : ρ y = .agg cells) (hg : W.heap[g]? = some (.cells old t (0, 0))) (hi : (P.info? ty).map (·.size) = some cells.size)
    (hs : old.size = cells.size) (h1 : cells.all (·.oneCell') = true) : (execOp ρ o).run P W = .ok .skip (W.setRow g cells) := by
  unfold execOp
  rw [ho]
  simp only [hx, hy, Sem.run_bind, run_storeAt_row W g t ty old cells hg hi hs h1, Result.andThen_ok, Sem.run_pure]
theorem step_skipW {R : World → World → Prop} {P : Program} {Q : Exit → Act → World → Prop} {md : Region.Mode} {l : List Oper} {Sp : Nat → Value → World → Prop} {B : Nat} {w0 : World} {a0 : Act} {i : Nat} {o : Oper} (hi : l[i]? = some o)
    (h : ∀ a W, Pre md l l Sp B w0 a0 o a W → Region.wanted o (yielded l.toArray a.tmps) = true ∧ ∃ W', (execOp a.eval o).run P W = .ok .skip W' ∧ Sp i undef W' ∧ Below B W W' ∧ W.heap.size ≤ W'.heap.size ∧ R W W') :
    StepX R P md Q l Sp B w0 a0 i o := fun a W h1 h2 h3 h4 => by
  obtain ⟨hw, W', hr, hs, hb⟩ := h a W ⟨h1, h2, fun j hj => h3 j (fun x hx hd => by
    have := (List.all_eq_true.1 hj) x hx
    simp [hd] at this), h4⟩
  refine wpOp_of hi hw ?_
  unfold Oper.wp
  rw [hr]
  exact ⟨undef, rfl, hs, hb⟩
def wNewQ (B : Nat) (v : Value) (W : World) : Prop := ∃ g cs, v = .pointer (some ⟨g, 0, none⟩) ∧ B ≤ g ∧ cs.size = 7 ∧ W.heap[g]? = some (.cells cs 55 (0, 0))
theorem stable_newQ (B : Nat) : Stable (wNewQ B) := fun _ _ _ ⟨g, cs, h1, h2, h4, h3⟩ hb => ⟨g, cs, h1, h2, h4, (hb.block g (Array.getElem?_eq_some_iff.1 h3).1).trans h3⟩
def setQ (W W' : World) : Prop := ∃ g cs, W' = W.setRow g cs ∧ cs.size = 7
theorem newQ_set {B : Nat} {v : Value} {W W' : World} (h : wNewQ B v W) (hs : setQ W W') : wNewQ B v W' := by
  obtain ⟨g, cs, h1, h2, h4, h3⟩ := h
  obtain ⟨g', cs', rfl, h5⟩ := hs
  by_cases hg : g = g'
  · subst hg
    exact ⟨g, cs', h1, h2, h5, setRow_heap W g _ cs' _ _ h3⟩
  · exact ⟨g, cs, h1, h2, h4, (setRow_other W g' g cs' hg).trans h3⟩
theorem run_ext6 {P : Program} {W : World} {o : Oper} {ρ : Operand → Value} {x : Operand} {i : Nat} {vs : Array Value} {v : Value} (ho : o.op = .extract x i) (hx : ρ x = .tuple vs) (hv : vs[i]? = some v) : (execOp ρ o).run P W = .ok (.value v) W := by
  simp [execOp, ho, hx, hv, Instr.extract, Result.andThen]
def wEoT (q : Qe) (b : Bool) (v : Value) (_ : World) : Prop := ∃ xq cq, v = .tuple #[.agg (qeC q.name q.e xq cq (q.at_ : Int)).toArray, .bool b]
def wEoV (q : Qe) (v : Value) (_ : World) : Prop := ∃ xq cq, v = .agg (qeC q.name q.e xq cq (q.at_ : Int)).toArray
theorem stable_eoT (q : Qe) (b : Bool) : Stable (wEoT q b) := fun _ _ _ h _ => h
theorem stable_eoV (q : Qe) : Stable (wEoV q) := fun _ _ _ h _ => h
theorem below_setRowB {B : Nat} {w W : World} (hb : Below B w W) {g : Nat} (hg : B ≤ g) (zs : Array Value) : Below B W (W.setRow g zs) ∧ W.heap.size ≤ (W.setRow g zs).heap.size := ⟨below_setRow (Below.refl _ _) hg zs, by rw [setRow_size]; exact Nat.le_refl _⟩
end Go.Proofs.Ytejljfoacbpliaa
