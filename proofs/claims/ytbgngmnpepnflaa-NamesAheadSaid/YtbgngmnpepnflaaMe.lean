/-
  Texts that the statements stand on, part 5.
-/
import Derived.Test.YtbgngmnpepnflaaMd
import Derived.Test.YtbgngmnpepnflaaRows
import Derived.WalkKit
import Derived.ProofKit
import Derived.OpenShut
set_option linter.unusedVariables false
set_option linter.unusedSimpArgs false
namespace Go.Proofs.Ytbgngmnpepnflaa
open Go Go.RowKit
def aw7N : Nd := (treeL [110, 111, 100, 101, 32, 102, 40, 120, 58, 32, 105, 110, 116, 41, 32, 114, 101, 116, 117, 114, 110, 115, 32, 40, 121, 58, 32, 98, 111, 111, 108, 41, 59, 32, 108, 101, 116, 32, 121, 32, 61, 32, 120, 32, 60, 32, 49, 59, 32, 116, 101, 108]).getD 0 (⟨⟨#[]⟩, [], [], [], [], 0⟩ : Nd)
def aw7Q : Qe := aw7N.eqs.getD 0 (⟨⟨#[]⟩, exZ, 0⟩ : Qe)
theorem aw7_tree : treeL [110, 111, 100, 101, 32, 102, 40, 120, 58, 32, 105, 110, 116, 41, 32, 114, 101, 116, 117, 114, 110, 115, 32, 40, 121, 58, 32, 98, 111, 111, 108, 41, 59, 32, 108, 101, 116, 32, 121, 32, 61, 32, 120, 32, 60, 32, 49, 59, 32, 116, 101, 108] = [aw7N] := by kernel_rfl
theorem aw7_eqs : aw7N.eqs = [aw7Q] := by kernel_rfl
theorem aw7_ok : okNd aw7N = true := by kernel_rfl
theorem aw7_okE : okE aw7Q.e = true := by kernel_rfl
theorem aw7_typ : typF [aw7N] = none := by kernel_rfl
theorem aw7_of : kdOf (kindF (([aw7N] : List Nd).take 0) (declK (declsOf aw7N)) aw7Q.e) = 1 := by kernel_rfl
theorem aw7_bad : typF (treeL [110, 111, 100, 101, 32, 102, 40, 41, 32, 114, 101, 116, 117, 114, 110, 115, 32, 40, 121, 58, 32, 105, 110, 116, 41, 59, 32, 108, 101, 116, 32, 121, 32, 61, 32, 49, 32, 43, 32, 116, 114, 117, 101, 59, 32, 116, 101, 108]) = some 37 := by kernel_rfl
theorem aw7_okB : (treeL [110, 111, 100, 101, 32, 102, 40, 41, 32, 114, 101, 116, 117, 114, 110, 115, 32, 40, 121, 58, 32, 105, 110, 116, 41, 59, 32, 108, 101, 116, 32, 121, 32, 61, 32, 49, 32, 43, 32, 116, 114, 117, 101, 59, 32, 116, 101, 108]).all okNd = true := by kernel_rfl
theorem okNd_all {l : List Nd} (h : l.all okNd = true) : ∀ (i : Nat) (hi : i < l.length), okNd l[i] = true := fun i hi => List.all_eq_true.1 h _ (List.getElem_mem hi)
theorem eq_b (W : World) : (binOp .eql 26 (.agg #[.int .i64 9, .int .i64 37]) (.agg #[.int .i64 9, .int .i64 37])).run Try.prog W = .ok (.bool true) W := by kernel_rfl
theorem eq_f0 (W : World) : (binOp .eql 33 (.agg #[.int .i64 0, .int .i64 0]) (.agg #[.int .i64 0, .int .i64 0])).run Try.prog W = .ok (.bool true) W := by kernel_rfl
theorem aw7_facts : ∃ (nd : Nd) (q : Qe), treeOf (⟨#[110, 111, 100, 101, 32, 102, 40, 120, 58, 32, 105, 110, 116, 41, 32, 114, 101, 116, 117, 114, 110, 115, 32, 40, 121, 58, 32, 98, 111, 111, 108, 41, 59, 32, 108, 101, 116, 32, 121, 32, 61, 32, 120, 32, 60, 32, 49, 59, 32, 116, 101, 108]⟩ : ByteArray) = [nd] ∧ nd.eqs = [q] ∧ okNd nd = true ∧ okE q.e = true ∧ typF [nd] = none ∧ kdOf (kindF (([nd] : List Nd).take 0) (declK (declsOf nd)) q.e) = 1 :=
  ⟨aw7N, aw7Q, by rw [treeOf_list]; exact aw7_tree, aw7_eqs, aw7_ok, aw7_okE, aw7_typ, aw7_of⟩
theorem aw7_factB : typF (treeOf (⟨#[110, 111, 100, 101, 32, 102, 40, 41, 32, 114, 101, 116, 117, 114, 110, 115, 32, 40, 121, 58, 32, 105, 110, 116, 41, 59, 32, 108, 101, 116, 32, 121, 32, 61, 32, 49, 32, 43, 32, 116, 114, 117, 101, 59, 32, 116, 101, 108]⟩ : ByteArray)) = some 37 ∧ ∀ (i : Nat) (h : i < (treeOf (⟨#[110, 111, 100, 101, 32, 102, 40, 41, 32, 114, 101, 116, 117, 114, 110, 115, 32, 40, 121, 58, 32, 105, 110, 116, 41, 59, 32, 108, 101, 116, 32, 121, 32, 61, 32, 49, 32, 43, 32, 116, 114, 117, 101, 59, 32, 116, 101, 108]⟩ : ByteArray)).length), okNd (treeOf (⟨#[110, 111, 100, 101, 32, 102, 40, 41, 32, 114, 101, 116, 117, 114, 110, 115, 32, 40, 121, 58, 32, 105, 110, 116, 41, 59, 32, 108, 101, 116, 32, 121, 32, 61, 32, 49, 32, 43, 32, 116, 114, 117, 101, 59, 32, 116, 101, 108]⟩ : ByteArray))[i] = true := by
  have e : treeOf (⟨#[110, 111, 100, 101, 32, 102, 40, 41, 32, 114, 101, 116, 117, 114, 110, 115, 32, 40, 121, 58, 32, 105, 110, 116, 41, 59, 32, 108, 101, 116, 32, 121, 32, 61, 32, 49, 32, 43, 32, 116, 114, 117, 101, 59, 32, 116, 101, 108]⟩ : ByteArray) = treeL [110, 111, 100, 101, 32, 102, 40, 41, 32, 114, 101, 116, 117, 114, 110, 115, 32, 40, 121, 58, 32, 105, 110, 116, 41, 59, 32, 108, 101, 116, 32, 121, 32, 61, 32, 49, 32, 43, 32, 116, 114, 117, 101, 59, 32, 116, 101, 108] := treeOf_list _
  rw [e]
  exact ⟨aw7_bad, okNd_all aw7_okB⟩
theorem one_at {nd : Nd} (h : okNd nd = true) : ∀ (i : Nat) (hi : i < [nd].length), okNd [nd][i] = true := fun i hi => by
  have : i = 0 := by simp at hi; omega
  subst this
  exact h
set_option maxHeartbeats 4000000 in
set_option maxRecDepth 100000 in
theorem awake7_any (w : World) : Calls Try.prog 17 #[] w (fun e w' => e = .returned (.bool true) ∧ Below w.heap.size w w') := by
  obtain ⟨nd, q, e1, e2, e3, e4, e5, e6⟩ := aw7_facts
  obtain ⟨e7, e8⟩ := aw7_factB
  have kp := parse_at (⟨#[110, 111, 100, 101, 32, 102, 40, 120, 58, 32, 105, 110, 116, 41, 32, 114, 101, 116, 117, 114, 110, 115, 32, 40, 121, 58, 32, 98, 111, 111, 108, 41, 59, 32, 108, 101, 116, 32, 121, 32, 61, 32, 120, 32, 60, 32, 49, 59, 32, 116, 101, 108]⟩ : ByteArray) w (by decide)
  have kf := fun W => fault7_any (⟨#[110, 111, 100, 101, 32, 102, 40, 41, 32, 114, 101, 116, 117, 114, 110, 115, 32, 40, 121, 58, 32, 105, 110, 116, 41, 59, 32, 108, 101, 116, 32, 121, 32, 61, 32, 49, 32, 43, 32, 116, 114, 117, 101, 59, 32, 116, 101, 108]⟩ : ByteArray) W (by decide) e8
  rw [e1] at kp
  unfold GivesO at kf
  rw [e7] at kf
  obtain ⟨q1, hq1⟩ : ∃ q, q = perOf (⟨#[110, 111, 100, 101, 32, 102, 40, 120, 58, 32, 105, 110, 116, 41, 32, 114, 101, 116, 117, 114, 110, 115, 32, 40, 121, 58, 32, 98, 111, 111, 108, 41, 59, 32, 108, 101, 116, 32, 121, 32, 61, 32, 120, 32, 60, 32, 49, 59, 32, 116, 101, 108]⟩ : ByteArray) := ⟨_, rfl⟩
  obtain ⟨q2, hq2⟩ : ∃ q, q = patOf (⟨#[110, 111, 100, 101, 32, 102, 40, 120, 58, 32, 105, 110, 116, 41, 32, 114, 101, 116, 117, 114, 110, 115, 32, 40, 121, 58, 32, 98, 111, 111, 108, 41, 59, 32, 108, 101, 116, 32, 121, 32, 61, 32, 120, 32, 60, 32, 49, 59, 32, 116, 101, 108]⟩ : ByteArray) := ⟨_, rfl⟩
  rw [← hq1, ← hq2] at kp
  have h1l : ([nd] : List Nd).length = 1 := rfl
  have HSB := Lib.hid size_bad
  have HSE := Lib.hid size_eS
  have E2 := Lib.hid e2
  have E3 := Lib.hid e3
  have E4 := Lib.hid e4
  have E5 := Lib.hid e5
  have E6 := Lib.hid e6
  have KF := Lib.hid kf
  clear e1 e2 e3 e4 e5 e6 e7 e8 kf hq1 hq2
  go_enter Try.func17, Try.ntmps17
  go_wp2_with fail
  (with_reducible refine kp.mono ?_)
  rintro e9 w1 ⟨x, c, rfl, hI, hb⟩
  have F1 := ((Fx.start w).call hb).alloc w1.heap.size rfl 26 #[.int .i64 0, .int .i64 0]
  have F2 := F1.store 0 rfl #[.int .i64 (q1 : Int), .int .i64 (q2 : Int)]
  have HN1 := Lib.hid (F1.get 0 rfl)
  have hI2 := IsD.below (new_row w1 26 #[.int .i64 0, .int .i64 0] #[.int .i64 (q1 : Int), .int .i64 (q2 : Int)]).1 hI
  obtain ⟨W2, hW2⟩ : ∃ W2, W2 = ((w1.alloc (.cells #[.int .i64 0, .int .i64 0] 26)).setRow w1.heap.size #[.int .i64 (q1 : Int), .int .i64 (q2 : Int)]) := ⟨_, rfl⟩
  rw [← hW2] at F2 hI2
  have kb := Back_any [nd] W2 (by have := F2.lt_ 0 rfl; omega) _ x c hI2
  rw [hW2, h1l] at kb
  have HF2 := Lib.hid F2
  have HW2 := Lib.hid hW2
  clear F1 F2 hI hI2 hb kp hW2
  go_wp2_with (refine wpList_store_row rfl 26 (.tmp 2) (.tmp 7) rfl w1.heap.size #[.int .i64 (q1 : Int), .int .i64 (q2 : Int)] rfl rfl 26 _ HN1.out HSB.out rfl (fault_one _ _) ?_)
  (with_reducible refine kb.mono ?_)
  rw [← HW2.out]
  rintro e9 w3 ⟨x3, c3, rfl, hI3, hb⟩
  have HF3 := Lib.hid (HF2.out.call hb)
  have HI3 := Lib.hid hI3
  have kf := KF.out w3
  clear hb hI3 kb
  go_wp2_with fail
  (with_reducible refine kf.mono ?_)
  rintro e9 w4 ⟨rfl, hb⟩
  have HF4 := Lib.hid (HF3.out.call hb)
  have HI4 := Lib.hid (IsD.below hb HI3.out)
  have kc := typCheck_any [nd] (one_at E3.out) w4 _ x3 c3 HI4.out
  unfold GivesO at kc
  rw [E5.out, h1l] at kc
  have z1 : ferO 9 none = 0 := rfl
  have z2 : fatO none = 0 := rfl
  have z3 : ferO 9 (some 37) = 9 := rfl
  have z4 : fatO (some 37) = 37 := rfl
  rw [z1, z2] at kc
  rw [z3, z4]
  have b1 := fun W => eq_b W
  clear hb kf z1 z2 z3 z4
  go_wp2_with fail
  (with_reducible refine kc.mono ?_)
  rintro e9 w5 ⟨rfl, hb⟩
  have HF5 := Lib.hid (HF4.out.call hb)
  have hI5 := IsD.below hb HI4.out
  obtain ⟨g, rfl, hg, xi, ci, xo, co, xl, cl, xe, ce, hrg, t1, t2, t3, t4⟩ := nd_at (l := [nd]) hI5 0 (by simp)
  simp only [List.getElem_cons_zero, Nat.zero_mul] at hrg t4
  rw [E2.out] at t4
  obtain ⟨ge, rfl, hge, xk, ck, hre, hkk⟩ := qe_at (l := [q]) t4 0 (by simp)
  simp only [List.getElem_cons_zero, Nat.zero_mul] at hre hkk
  have hcc := IsD.slice hI5
  have hc3 : 1 ≤ c3 := by obtain ⟨x', c', h1, h2, h3⟩ := hcc; injection h1 with _ _ h; subst h; exact h2
  have hce : 1 ≤ ce := by obtain ⟨x', c', h1, h2, h3⟩ := IsD.slice t4; injection h1 with _ _ h; subst h; exact h2
  have c4 : w5.cell? ⟨g, 4, none⟩ = some (.slice (some ⟨ge, 0, none⟩) 1 ce) := by
    have := hrg 4 _ (show (ndC nd xi xo xl (some ⟨ge, 0, none⟩) ci co cl ce)[4]? = some (.slice (some ⟨ge, 0, none⟩) nd.eqs.length ce) from rfl)
    rw [E2.out] at this
    exact this
  have ko := typOf_any [nd] 0 (by simp) E3.out q.e E4.out w5 _ _ _ c3 hI5 xk ck hkk
  rw [show ([nd] : List Nd)[0] = nd from rfl, E6.out] at ko
  have ko : Calls Try.prog 19 #[.slice (some ⟨g, 0, none⟩) 1 c3, .int .i64 0, exV q.e xk ck] w5 (fun en w' => en = .returned (.int .i64 1) ∧ Below w5.heap.size w5 w') := ko
  have p1 : w5.cell? ⟨ge, 1, none⟩ = some (.string q.e.op) := by simpa using hre 1 _ (show (qeC q.name q.e xk ck (q.at_ : Int))[1]? = some (.string q.e.op) from rfl)
  have p2 : w5.cell? ⟨ge, 2, none⟩ = some (.string q.e.name) := by simpa using hre 2 _ (show (qeC q.name q.e xk ck (q.at_ : Int))[2]? = some (.string q.e.name) from rfl)
  have p3 : w5.cell? ⟨ge, 3, none⟩ = some (.int .i64 q.e.n) := by simpa using hre 3 _ (show (qeC q.name q.e xk ck (q.at_ : Int))[3]? = some (.int .i64 q.e.n) from rfl)
  have p4 : w5.cell? ⟨ge, 4, none⟩ = some (.int .i64 (q.e.at_ : Int)) := by simpa using hre 4 _ (show (qeC q.name q.e xk ck (q.at_ : Int))[4]? = some (.int .i64 (q.e.at_ : Int)) from rfl)
  have p5 : w5.cell? ⟨ge, 5, none⟩ = some (.slice xk q.e.kids.length ck) := by simpa using hre 5 _ (show (qeC q.name q.e xk ck (q.at_ : Int))[5]? = some (.slice xk q.e.kids.length ck) from rfl)
  have b2 := fun W => eq_f0 W
  unfold exV at ko
  clear hb kc hI5 hrg t1 t2 t3 t4 hre hkk hcc
  go_wp2_with fail
  (with_reducible refine ko.mono ?_)
  rintro e9 w6 ⟨rfl, hb⟩
  have HF6 := Lib.hid (HF5.out.call hb)
  clear hb ko c4 p1 p2 p3 p4 p5
  go_wp2_with fail
  go_ret
  exact ⟨rfl, HF6.out.below⟩
end Go.Proofs.Ytbgngmnpepnflaa

namespace Go.Proofs.Ytbgngmnpepnflaa
open Go Go.RowKit
def kindB (b : Bool) : ByteArray := if b = true then (⟨#[98, 111, 111, 108]⟩ : ByteArray) else (⟨#[105, 110, 116]⟩ : ByteArray)
def kindL (b : Bool) : List UInt8 := if b = true then [98, 111, 111, 108] else [105, 110, 116]
theorem kindB_list (b : Bool) : (kindB b).data.toList = kindL b := by cases b <;> rfl
theorem kindB_size (b : Bool) : (kindB b).size ≤ 4 := by cases b <;> decide
theorem kind7_any (b : Bool) (w : World) : Calls Try.prog 26 #[.bool b] w (fun e w' => e = .returned (.string (kindB b)) ∧ w' = w) := by
  cases b
  · go_enter Try.func26, Try.ntmps26
    go_wp2_with fail
    go_ret
    exact ⟨rfl, rfl⟩
  · go_enter Try.func26, Try.ntmps26
    go_wp2_with fail
    go_ret
    exact ⟨rfl, rfl⟩
def litB (b : Bool) : ByteArray := if b = true then (⟨#[116, 114, 117, 101]⟩ : ByteArray) else (⟨#[55]⟩ : ByteArray)
def litL (b : Bool) : List UInt8 := if b = true then [116, 114, 117, 101] else [55]
theorem litB_list (b : Bool) : (litB b).data.toList = litL b := by cases b <;> rfl
theorem litB_size (b : Bool) : (litB b).size ≤ 4 := by cases b <;> decide
theorem lit7_any (b : Bool) (w : World) : Calls Try.prog 27 #[.bool b] w (fun e w' => e = .returned (.string (litB b)) ∧ w' = w) := by
  cases b
  · go_enter Try.func27, Try.ntmps27
    go_wp2_with fail
    go_ret
    exact ⟨rfl, rfl⟩
  · go_enter Try.func27, Try.ntmps27
    go_wp2_with fail
    go_ret
    exact ⟨rfl, rfl⟩
/-- A text whose bytes are known, and what its first fault is. -/
theorem fault7_ok {t : ByteArray} {L : List UInt8} {ok : Bool} (ht : t.data.toList = L) (hl : L.length ≤ 1000) (h1 : (treeL L).all okNd = true) (h2 : (typF (treeL L)).isNone = ok) (w : World) : Calls Try.prog 18 #[.string t] w (fun e w' => ∃ er ea : Int, e = .returned (.agg #[.int .i64 er, .int .i64 ea]) ∧ (er == 0) = ok ∧ Below w.heap.size w w') := by
  have e : treeOf t = treeL L := by rw [treeOf_list, ht]
  have hs : t.size ≤ 1000 := by have : t.data.toList.length = t.size := by simp
                                rw [ht] at this; omega
  refine (fault7_any t w (by omega) (by rw [e]; exact okNd_all h1)).mono ?_
  rintro e9 w' ⟨rfl, hb⟩
  rw [e]
  refine ⟨_, _, rfl, ?_, hb⟩
  rw [← h2]
  cases typF (treeL L) with
  | none => rfl
  | some a => rfl
def B2 : List Bool := [true, false]
theorem B2_all {f : Bool → Bool} (h : B2.all f = true) (b : Bool) : f b = true := by
  have h := List.all_eq_true.1 h
  cases b
  · exact h false (by decide)
  · exact h true (by decide)
def fine (L : List UInt8) (ok : Bool) : Bool := (treeL L).all okNd && ((typF (treeL L)).isNone == ok && (perL L == 0 && decide (L.length ≤ 1000)))
theorem fine_spec {L : List UInt8} {ok : Bool} (h : fine L ok = true) : (treeL L).all okNd = true ∧ (typF (treeL L)).isNone = ok ∧ perL L = 0 ∧ L.length ≤ 1000 := by
  unfold fine at h
  simp only [Bool.and_eq_true, beq_iff_eq, decide_eq_true_eq] at h
  exact h
def tifL (a b c : Bool) : List UInt8 := [110, 111, 100, 101, 32, 102, 40, 41, 32, 114, 101, 116, 117, 114, 110, 115, 32, 40, 121, 58, 32] ++ (kindL b ++ ([41, 59, 32, 108, 101, 116, 32, 121, 32, 61, 32, 105, 102, 32] ++ (litL a ++ ([32, 116, 104, 101, 110, 32] ++ (litL b ++ ([32, 101, 108, 115, 101, 32] ++ (litL c ++ ([59, 32, 116, 101, 108]))))))))
theorem tif_list (a b c : Bool) : ((((((((((⟨#[110, 111, 100, 101, 32, 102, 40, 41, 32, 114, 101, 116, 117, 114, 110, 115, 32, 40, 121, 58, 32]⟩ : ByteArray) ++ kindB b) ++ (⟨#[41, 59, 32, 108, 101, 116, 32, 121, 32, 61, 32, 105, 102, 32]⟩ : ByteArray)) ++ litB a) ++ (⟨#[32, 116, 104, 101, 110, 32]⟩ : ByteArray)) ++ litB b) ++ (⟨#[32, 101, 108, 115, 101, 32]⟩ : ByteArray)) ++ litB c) ++ (⟨#[59, 32, 116, 101, 108]⟩ : ByteArray)) : ByteArray).data.toList = tifL a b c := by
  simp only [app_lst, kindB_list, litB_list, List.append_assoc]
  rfl
set_option maxRecDepth 100000 in
theorem tif_all : (B2.all fun a => (B2.all fun b => (B2.all fun c => fine (tifL a b c) (a && b == c)))) = true := by kernel_rfl
theorem tif_fine (a b c : Bool) : fine (tifL a b c) (a && b == c) = true := B2_all (B2_all (B2_all tif_all a) b) c
def tmeL (a b c : Bool) : List UInt8 := [110, 111, 100, 101, 32, 102, 40, 99, 58, 32] ++ (kindL a ++ ([41, 32, 114, 101, 116, 117, 114, 110, 115, 32, 40, 121, 58, 32] ++ (kindL b ++ ([41, 59, 32, 108, 101, 116, 32, 121, 32, 61, 32, 109, 101, 114, 103, 101, 32, 99, 32] ++ (litL b ++ ([32] ++ (litL c ++ ([59, 32, 116, 101, 108]))))))))
theorem tme_list (a b c : Bool) : ((((((((((⟨#[110, 111, 100, 101, 32, 102, 40, 99, 58, 32]⟩ : ByteArray) ++ kindB a) ++ (⟨#[41, 32, 114, 101, 116, 117, 114, 110, 115, 32, 40, 121, 58, 32]⟩ : ByteArray)) ++ kindB b) ++ (⟨#[41, 59, 32, 108, 101, 116, 32, 121, 32, 61, 32, 109, 101, 114, 103, 101, 32, 99, 32]⟩ : ByteArray)) ++ litB b) ++ (⟨#[32]⟩ : ByteArray)) ++ litB c) ++ (⟨#[59, 32, 116, 101, 108]⟩ : ByteArray)) : ByteArray).data.toList = tmeL a b c := by
  simp only [app_lst, kindB_list, litB_list, List.append_assoc]
  rfl
set_option maxRecDepth 100000 in
theorem tme_all : (B2.all fun a => (B2.all fun b => (B2.all fun c => fine (tmeL a b c) (a && b == c)))) = true := by kernel_rfl
theorem tme_fine (a b c : Bool) : fine (tmeL a b c) (a && b == c) = true := B2_all (B2_all (B2_all tme_all a) b) c
def tcaL (a b o x y z : Bool) : List UInt8 := [110, 111, 100, 101, 32, 103, 40, 97, 58, 32] ++ (kindL a ++ ([59, 32, 98, 58, 32] ++ (kindL b ++ ([41, 32, 114, 101, 116, 117, 114, 110, 115, 32, 40, 99, 58, 32] ++ (kindL o ++ ([41, 59, 32, 108, 101, 116, 32, 99, 32, 61, 32] ++ (litL o ++ ([59, 32, 116, 101, 108, 32, 110, 111, 100, 101, 32, 102, 40, 41, 32, 114, 101, 116, 117, 114, 110, 115, 32, 40, 121, 58, 32] ++ (kindL z ++ ([41, 59, 32, 108, 101, 116, 32, 121, 32, 61, 32, 103, 40] ++ (litL x ++ ([44, 32] ++ (litL y ++ ([41, 59, 32, 116, 101, 108]))))))))))))))
theorem tca_list (a b o x y z : Bool) : ((((((((((((((((⟨#[110, 111, 100, 101, 32, 103, 40, 97, 58, 32]⟩ : ByteArray) ++ kindB a) ++ (⟨#[59, 32, 98, 58, 32]⟩ : ByteArray)) ++ kindB b) ++ (⟨#[41, 32, 114, 101, 116, 117, 114, 110, 115, 32, 40, 99, 58, 32]⟩ : ByteArray)) ++ kindB o) ++ (⟨#[41, 59, 32, 108, 101, 116, 32, 99, 32, 61, 32]⟩ : ByteArray)) ++ litB o) ++ (⟨#[59, 32, 116, 101, 108, 32, 110, 111, 100, 101, 32, 102, 40, 41, 32, 114, 101, 116, 117, 114, 110, 115, 32, 40, 121, 58, 32]⟩ : ByteArray)) ++ kindB z) ++ (⟨#[41, 59, 32, 108, 101, 116, 32, 121, 32, 61, 32, 103, 40]⟩ : ByteArray)) ++ litB x) ++ (⟨#[44, 32]⟩ : ByteArray)) ++ litB y) ++ (⟨#[41, 59, 32, 116, 101, 108]⟩ : ByteArray)) : ByteArray).data.toList = tcaL a b o x y z := by
  simp only [app_lst, kindB_list, litB_list, List.append_assoc]
  rfl
set_option maxRecDepth 100000 in
theorem tca_all0 : (B2.all fun o => (B2.all fun x => (B2.all fun y => (B2.all fun z => fine (tcaL false false o x y z) (false == x && false == y && o == z))))) = true := by kernel_rfl
set_option maxRecDepth 100000 in
theorem tca_all1 : (B2.all fun o => (B2.all fun x => (B2.all fun y => (B2.all fun z => fine (tcaL false true o x y z) (false == x && true == y && o == z))))) = true := by kernel_rfl
set_option maxRecDepth 100000 in
theorem tca_all2 : (B2.all fun o => (B2.all fun x => (B2.all fun y => (B2.all fun z => fine (tcaL true false o x y z) (true == x && false == y && o == z))))) = true := by kernel_rfl
set_option maxRecDepth 100000 in
theorem tca_all3 : (B2.all fun o => (B2.all fun x => (B2.all fun y => (B2.all fun z => fine (tcaL true true o x y z) (true == x && true == y && o == z))))) = true := by kernel_rfl
theorem tca_fine (a b o x y z : Bool) : fine (tcaL a b o x y z) (a == x && b == y && o == z) = true := by
  cases a <;> cases b
  · exact B2_all (B2_all (B2_all (B2_all tca_all0 o) x) y) z
  · exact B2_all (B2_all (B2_all (B2_all tca_all1 o) x) y) z
  · exact B2_all (B2_all (B2_all (B2_all tca_all2 o) x) y) z
  · exact B2_all (B2_all (B2_all (B2_all tca_all3 o) x) y) z
theorem fld_bad0 (a b : Int) (W : World) : (Instr.field 26 (.agg #[.int .i64 a, .int .i64 b]) 0).run Try.prog W = .ok (.int .i64 a) W := by kernel_rfl
theorem fld_bad1 (a b : Int) (W : World) : (Instr.field 26 (.agg #[.int .i64 a, .int .i64 b]) 1).run Try.prog W = .ok (.int .i64 b) W := by kernel_rfl
end Go.Proofs.Ytbgngmnpepnflaa

namespace Go.Proofs.Ytbgngmnpepnflaa
open Go Go.RowKit
theorem jf_laid : laidOutB Try.prog = true := by kernel_rfl
theorem jf_maps : mapsRowed Try.prog = true := by kernel_rfl
theorem jf_plain : Try.prog.plainKeys = Rows.typIfsRow.plainKeys := by kernel_rfl
theorem jf_heard : Try.prog.stopsHeard = true := by kernel_rfl
theorem jf_may : Try.prog.mayEnter = true := by kernel_rfl
theorem jf_lifts : Try.prog.liftsFinal = Rows.typIfsRow.lifted := by kernel_rfl
theorem jf_make : Try.prog.make = some Rows.typIfsRow.make := by kernel_rfl
end Go.Proofs.Ytbgngmnpepnflaa

namespace Go.Proofs.Ytbgngmnpepnflaa
open Go Go.RowKit
def op7A : List ByteArray := [⟨#[43]⟩, ⟨#[45]⟩, ⟨#[42]⟩, ⟨#[47]⟩, ⟨#[109, 111, 100]⟩, ⟨#[61]⟩, ⟨#[60, 62]⟩, ⟨#[60]⟩, ⟨#[60, 61]⟩, ⟨#[62]⟩, ⟨#[62, 61]⟩, ⟨#[97, 110, 100]⟩, ⟨#[111, 114]⟩, ⟨#[120, 111, 114]⟩, ⟨#[45, 62]⟩, ⟨#[102, 98, 121]⟩]
def op7B (i : Nat) : ByteArray := op7A.getD i ⟨#[]⟩
def op7L (i : Nat) : List UInt8 := (op7A.map (fun s => s.data.toList)).getD i []
theorem op7_at (j : Nat) (h : j < 16) : (#[.string ⟨#[43]⟩, .string ⟨#[45]⟩, .string ⟨#[42]⟩, .string ⟨#[47]⟩, .string ⟨#[109, 111, 100]⟩, .string ⟨#[61]⟩, .string ⟨#[60, 62]⟩, .string ⟨#[60]⟩, .string ⟨#[60, 61]⟩, .string ⟨#[62]⟩, .string ⟨#[62, 61]⟩, .string ⟨#[97, 110, 100]⟩, .string ⟨#[111, 114]⟩, .string ⟨#[120, 111, 114]⟩, .string ⟨#[45, 62]⟩, .string ⟨#[102, 98, 121]⟩] : Array Value)[j]? = some (.string (op7B j)) := by
  have e : (#[.string ⟨#[43]⟩, .string ⟨#[45]⟩, .string ⟨#[42]⟩, .string ⟨#[47]⟩, .string ⟨#[109, 111, 100]⟩, .string ⟨#[61]⟩, .string ⟨#[60, 62]⟩, .string ⟨#[60]⟩, .string ⟨#[60, 61]⟩, .string ⟨#[62]⟩, .string ⟨#[62, 61]⟩, .string ⟨#[97, 110, 100]⟩, .string ⟨#[111, 114]⟩, .string ⟨#[120, 111, 114]⟩, .string ⟨#[45, 62]⟩, .string ⟨#[102, 98, 121]⟩] : Array Value) = (op7A.map Value.string).toArray := rfl
  rw [e, List.getElem?_toArray, List.getElem?_map]
  unfold op7B
  rw [List.getD_eq_getElem?_getD]
  have hl : j < op7A.length := h
  rw [List.getElem?_eq_getElem hl]
  rfl
theorem op7_list (j : Nat) (h : j < 16) : (op7B j).data.toList = op7L j := by
  unfold op7B op7L
  rw [List.getD_eq_getElem?_getD, List.getD_eq_getElem?_getD, List.getElem?_map]
  have hl : j < op7A.length := h
  rw [List.getElem?_eq_getElem hl]
  rfl
theorem op7_size (j : Nat) : (op7B j).size ≤ 3 := by
  by_cases h : j < 16
  · match j, h with
    | 0, _ | 1, _ | 2, _ | 3, _ | 4, _ | 5, _ | 6, _ | 7, _ | 8, _ | 9, _ | 10, _ | 11, _ | 12, _ | 13, _ | 14, _ | 15, _ => decide
    | _ + 16, h => omega
  · unfold op7B
    rw [List.getD_eq_getElem?_getD, List.getElem?_eq_none (by show 16 ≤ j; omega)]
    decide
def top7L (o : Bool) (a b : Bool) (k : Nat) : List UInt8 := [110, 111, 100, 101, 32, 102, 40, 41, 32, 114, 101, 116, 117, 114, 110, 115, 32, 40, 121, 58, 32] ++ (kindL o ++ ([41, 59, 32, 108, 101, 116, 32, 121, 32, 61, 32] ++ ((if a = true then [116, 114, 117, 101] else [49]) ++ ([32] ++ (op7L k ++ ([32] ++ ((if b = true then [102, 97, 108, 115, 101] else [50]) ++ [59, 32, 116, 101, 108])))))))
def out7 (a : Bool) (k : Nat) : Bool := if k < 5 then false else if k < 14 then true else a
def ok7 (a b : Bool) (k : Nat) : Bool := if k < 5 then !a && !b else if k < 7 then a == b else if k < 11 then !a && !b else if k < 14 then a && b else a == b
set_option maxRecDepth 100000 in
theorem top7_all : (B2.all fun a => (B2.all fun b => (List.range 16).all fun k => fine (top7L (out7 a k) a b k) (ok7 a b k))) = true := by kernel_rfl
theorem top7_fine (a b : Bool) (k : Nat) (h : k < 16) : fine (top7L (out7 a k) a b k) (ok7 a b k) = true := List.all_eq_true.1 (B2_all (B2_all top7_all a) b) k (List.mem_range.2 h)
theorem top7_true_true_true (k : Nat) (h : k < 16) : ((((((((((⟨#[110, 111, 100, 101, 32, 102, 40, 41, 32, 114, 101, 116, 117, 114, 110, 115, 32, 40, 121, 58, 32]⟩ : ByteArray) ++ (⟨#[98, 111, 111, 108]⟩ : ByteArray)) ++ (⟨#[41, 59, 32, 108, 101, 116, 32, 121, 32, 61, 32]⟩ : ByteArray)) ++ (⟨#[116, 114, 117, 101]⟩ : ByteArray)) ++ (⟨#[32]⟩ : ByteArray)) ++ op7B k) ++ (⟨#[32]⟩ : ByteArray)) ++ (⟨#[102, 97, 108, 115, 101]⟩ : ByteArray)) ++ (⟨#[59, 32, 116, 101, 108]⟩ : ByteArray)) : ByteArray).data.toList = top7L true true true k := by
  simp only [app_lst, op7_list k h, List.append_assoc]
  rfl
theorem top7_true_true_false (k : Nat) (h : k < 16) : ((((((((((⟨#[110, 111, 100, 101, 32, 102, 40, 41, 32, 114, 101, 116, 117, 114, 110, 115, 32, 40, 121, 58, 32]⟩ : ByteArray) ++ (⟨#[105, 110, 116]⟩ : ByteArray)) ++ (⟨#[41, 59, 32, 108, 101, 116, 32, 121, 32, 61, 32]⟩ : ByteArray)) ++ (⟨#[116, 114, 117, 101]⟩ : ByteArray)) ++ (⟨#[32]⟩ : ByteArray)) ++ op7B k) ++ (⟨#[32]⟩ : ByteArray)) ++ (⟨#[102, 97, 108, 115, 101]⟩ : ByteArray)) ++ (⟨#[59, 32, 116, 101, 108]⟩ : ByteArray)) : ByteArray).data.toList = top7L false true true k := by
  simp only [app_lst, op7_list k h, List.append_assoc]
  rfl
theorem top7_true_false_true (k : Nat) (h : k < 16) : ((((((((((⟨#[110, 111, 100, 101, 32, 102, 40, 41, 32, 114, 101, 116, 117, 114, 110, 115, 32, 40, 121, 58, 32]⟩ : ByteArray) ++ (⟨#[98, 111, 111, 108]⟩ : ByteArray)) ++ (⟨#[41, 59, 32, 108, 101, 116, 32, 121, 32, 61, 32]⟩ : ByteArray)) ++ (⟨#[116, 114, 117, 101]⟩ : ByteArray)) ++ (⟨#[32]⟩ : ByteArray)) ++ op7B k) ++ (⟨#[32]⟩ : ByteArray)) ++ (⟨#[50]⟩ : ByteArray)) ++ (⟨#[59, 32, 116, 101, 108]⟩ : ByteArray)) : ByteArray).data.toList = top7L true true false k := by
  simp only [app_lst, op7_list k h, List.append_assoc]
  rfl
theorem top7_true_false_false (k : Nat) (h : k < 16) : ((((((((((⟨#[110, 111, 100, 101, 32, 102, 40, 41, 32, 114, 101, 116, 117, 114, 110, 115, 32, 40, 121, 58, 32]⟩ : ByteArray) ++ (⟨#[105, 110, 116]⟩ : ByteArray)) ++ (⟨#[41, 59, 32, 108, 101, 116, 32, 121, 32, 61, 32]⟩ : ByteArray)) ++ (⟨#[116, 114, 117, 101]⟩ : ByteArray)) ++ (⟨#[32]⟩ : ByteArray)) ++ op7B k) ++ (⟨#[32]⟩ : ByteArray)) ++ (⟨#[50]⟩ : ByteArray)) ++ (⟨#[59, 32, 116, 101, 108]⟩ : ByteArray)) : ByteArray).data.toList = top7L false true false k := by
  simp only [app_lst, op7_list k h, List.append_assoc]
  rfl
theorem top7_false_true_true (k : Nat) (h : k < 16) : ((((((((((⟨#[110, 111, 100, 101, 32, 102, 40, 41, 32, 114, 101, 116, 117, 114, 110, 115, 32, 40, 121, 58, 32]⟩ : ByteArray) ++ (⟨#[98, 111, 111, 108]⟩ : ByteArray)) ++ (⟨#[41, 59, 32, 108, 101, 116, 32, 121, 32, 61, 32]⟩ : ByteArray)) ++ (⟨#[49]⟩ : ByteArray)) ++ (⟨#[32]⟩ : ByteArray)) ++ op7B k) ++ (⟨#[32]⟩ : ByteArray)) ++ (⟨#[102, 97, 108, 115, 101]⟩ : ByteArray)) ++ (⟨#[59, 32, 116, 101, 108]⟩ : ByteArray)) : ByteArray).data.toList = top7L true false true k := by
  simp only [app_lst, op7_list k h, List.append_assoc]
  rfl
theorem top7_false_true_false (k : Nat) (h : k < 16) : ((((((((((⟨#[110, 111, 100, 101, 32, 102, 40, 41, 32, 114, 101, 116, 117, 114, 110, 115, 32, 40, 121, 58, 32]⟩ : ByteArray) ++ (⟨#[105, 110, 116]⟩ : ByteArray)) ++ (⟨#[41, 59, 32, 108, 101, 116, 32, 121, 32, 61, 32]⟩ : ByteArray)) ++ (⟨#[49]⟩ : ByteArray)) ++ (⟨#[32]⟩ : ByteArray)) ++ op7B k) ++ (⟨#[32]⟩ : ByteArray)) ++ (⟨#[102, 97, 108, 115, 101]⟩ : ByteArray)) ++ (⟨#[59, 32, 116, 101, 108]⟩ : ByteArray)) : ByteArray).data.toList = top7L false false true k := by
  simp only [app_lst, op7_list k h, List.append_assoc]
  rfl
theorem top7_false_false_true (k : Nat) (h : k < 16) : ((((((((((⟨#[110, 111, 100, 101, 32, 102, 40, 41, 32, 114, 101, 116, 117, 114, 110, 115, 32, 40, 121, 58, 32]⟩ : ByteArray) ++ (⟨#[98, 111, 111, 108]⟩ : ByteArray)) ++ (⟨#[41, 59, 32, 108, 101, 116, 32, 121, 32, 61, 32]⟩ : ByteArray)) ++ (⟨#[49]⟩ : ByteArray)) ++ (⟨#[32]⟩ : ByteArray)) ++ op7B k) ++ (⟨#[32]⟩ : ByteArray)) ++ (⟨#[50]⟩ : ByteArray)) ++ (⟨#[59, 32, 116, 101, 108]⟩ : ByteArray)) : ByteArray).data.toList = top7L true false false k := by
  simp only [app_lst, op7_list k h, List.append_assoc]
  rfl
theorem top7_false_false_false (k : Nat) (h : k < 16) : ((((((((((⟨#[110, 111, 100, 101, 32, 102, 40, 41, 32, 114, 101, 116, 117, 114, 110, 115, 32, 40, 121, 58, 32]⟩ : ByteArray) ++ (⟨#[105, 110, 116]⟩ : ByteArray)) ++ (⟨#[41, 59, 32, 108, 101, 116, 32, 121, 32, 61, 32]⟩ : ByteArray)) ++ (⟨#[49]⟩ : ByteArray)) ++ (⟨#[32]⟩ : ByteArray)) ++ op7B k) ++ (⟨#[32]⟩ : ByteArray)) ++ (⟨#[50]⟩ : ByteArray)) ++ (⟨#[59, 32, 116, 101, 108]⟩ : ByteArray)) : ByteArray).data.toList = top7L false false false k := by
  simp only [app_lst, op7_list k h, List.append_assoc]
  rfl
end Go.Proofs.Ytbgngmnpepnflaa
