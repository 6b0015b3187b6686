/-
  What the document's own primes does.
-/
import Derived.Test.YtopchpaiehoilaaDoorInf
import Derived.Test.YtopchpaiehoilaaDoorQpu
import Derived.OwnWalk
namespace Go.Proofs.YtopchpaiehoilaaDoor
open Go Go.RowKit

theorem info_u64 : (Tryd.prog.info? 40).map (fun i => (i.zero, i.size, i.bytes)) = some (some (.int .u64 0), 1, 8) := by kernel_rfl
def u64s (l : List Nat) : List Value := l.map fun (n : Nat) => Value.int .u64 (n : Int)
theorem u64s_get {l : List Nat} {i : Nat} (h : i < l.length) : (u64s l)[i]? = some (.int .u64 ((l.getD i 0 : Nat) : Int)) := by
  simp [u64s, h]
theorem row_u64 {w : World} {base : Nat} {v : Value} {xs : List Value} {n : Nat} (h : w.ownsRow base 40 1 v n xs) : ∃ a c, v = .slice a n c ∧ n ≤ c ∧ c ≤ maxLen ∧ (0 < n → ∃ g, a = some ⟨g, 0, none⟩ ∧ base ≤ g ∧ g < w.heap.size ∧ ∀ i, i < n → w.cell? ⟨g, i, none⟩ = xs[i]?) := by
  rcases h.2 with ⟨rfl, rfl⟩ | ⟨g, cap, cur, rfl, hb, hg, hnc, hcm, hsz, ht⟩
  · exact ⟨none, 0, rfl, Nat.le_refl _, Nat.zero_le _, fun h => absurd h (by omega)⟩
  · refine ⟨_, cap, rfl, hnc, hcm, fun _ => ⟨g, rfl, hb, (Array.getElem?_eq_some_iff.1 hg).1, fun i hi => ?_⟩⟩
    rw [← ht, List.getElem?_take, if_pos (by omega)]
    simp [World.cell?, hg]

/-- What primes hands back. -/
def Primed (w : World) (e : Ending) (w' : World) : Prop := ∃ g c, e = .returned (.slice (some ⟨g, 0, none⟩) 64 c) ∧ w.heap.size ≤ g ∧ 64 ≤ c ∧ c ≤ maxLen ∧ (∀ i, i < 64 → w'.cell? ⟨g, i, none⟩ = some (.int .u64 ((PRIMES.getD i 0 : Nat) : Int))) ∧ Below w.heap.size w w'

theorem pr_pos : ∀ k, ∀ q ∈ pr k, 2 ≤ q ∧ q ≤ k + 1
  | 0, q, h => by simp [pr] at h
  | k + 1, q, h => by
    have ih := pr_pos k
    have h' : q ∈ (if (pr k).all fun q => (k + 2) % q != 0 then pr k ++ [k + 2] else pr k) := h
    split at h'
    · rcases List.mem_append.1 h' with h1 | h1
      · have := ih q h1; omega
      · simp at h1; omega
    · have := ih q h'; omega

set_option maxHeartbeats 4000000 in
set_option maxRecDepth 100000 in
theorem primes_any (w : World) : Calls Tryd.prog 13 #[.int .i64 64] w (Primed w) := by
  obtain ⟨i0, hi0, hz0, hz1, hz2⟩ := info_parts info_u64
  go_enter Tryd.func13, Tryd.ntmps13
  go_wp2
  go_loopw [3, 4] (fun vl vp wr => ∃ (V : Value) (k : Nat), V = vl ∧ vp = .int .u64 ((k + 2 : Nat) : Int) ∧ k ≤ 310 ∧ wr.ownsRow w.heap.size 40 1 V (pr k).length (u64s (pr k)) ∧ Below w.heap.size w wr)
    (fun _ vp _ => 400 - (intOf vp).toNat)
  case atStart => exact ⟨_, 0, rfl, rfl, by omega, ⟨rfl, .inl ⟨rfl, rfl⟩⟩, Below.refl _ _⟩
  case round =>
    obtain ⟨V, k, hV, rfl, hk, hown, hbel⟩ := hrel
    subst hV
    by_cases hlt : k ≤ 309
    · have hsh := pr_short k hlt
      obtain ⟨a, c, rfl, hnc, hcm, hcell⟩ := row_u64 hown
      have hpos := pr_pos k
      have hsucc : pr (k + 1) = if (pr k).all fun q => (k + 2) % q != 0 then pr k ++ [k + 2] else pr k := rfl
      obtain ⟨L, hL⟩ : ∃ L, L = pr k := ⟨_, rfl⟩
      rw [← hL] at hown hsh hnc hcell hpos hsucc
      rw [← hL]
      have HL := Lib.hid hL
      have HO := Lib.hid hown
      have HB := Lib.hid hbel
      have HC := Lib.hid hcell
      have HS := Lib.hid hsucc
      have HP := Lib.hid hpos
      clear hL hown hbel hcell hsucc hpos
      have hlen : (L.length : Int) < 64 := by omega
      unfold maxLen at hcm
      go_wp2
      go_loop [5, 6] (fun vo vi => ∃ i : Nat, vi = .int .i64 i ∧ i ≤ L.length ∧ vo = .bool ((L.take i).all fun q => (k + 2) % q != 0))
        (fun _ vi => L.length - (intOf vi).toNat)
      case atStart => exact ⟨0, rfl, by omega, rfl⟩
      case round =>
        obtain ⟨i, rfl, hi, rfl⟩ := hrel
        by_cases hil : i < L.length
        · obtain ⟨g, rfl, _, _, hc⟩ := HC.out (by omega)
          have hci := hc i hil
          rw [u64s_get hil] at hci
          have hq := HP.out (L.getD i 0) (by rw [show L.getD i 0 = L[i] by simp [List.getD_eq_getElem?_getD, hil]]; exact List.getElem_mem hil)
          have htk : (L.take (i + 1)).all (fun q => (k + 2) % q != 0) = ((L.take i).all (fun q => (k + 2) % q != 0) && ((k + 2) % (L.getD i 0) != 0)) := by
            rw [List.take_succ_eq_append_getElem hil, List.all_append]
            simp [List.getD_eq_getElem?_getD, hil]
          obtain ⟨q, hqe⟩ : ∃ q, q = L.getD i 0 := ⟨_, rfl⟩
          rw [← hqe] at hci hq htk
          obtain ⟨q2, qk⟩ := hq
          generalize (L.take i).all (fun q => (k + 2) % q != 0) = b at htk ⊢
          have HT := Lib.hid htk
          clear htk hc hqe
          by_cases hd : (k + 2) % q = 0
          · have hdI : ((k : Int) + 2) % (q : Int) = 0 := by
              have h : ((k : Int) + 2) % (q : Int) = (((k + 2) % q : Nat) : Int) := by simp
              rw [h, hd]; rfl
            have HD := Lib.hid hd
            clear hd
            go_wp2
            refine ⟨⟨i + 1, by go_num, by omega, by rw [HT.out, HD.out]; simp⟩, ?_⟩
            simp [intOf]; omega
          · have hdI : (((k : Int) + 2) % (q : Int) == 0) = false := by
              have h : ((k : Int) + 2) % (q : Int) = (((k + 2) % q : Nat) : Int) := by simp
              rw [h]; simp; omega
            have HD := Lib.hid hd
            clear hd
            go_wp2
            refine ⟨⟨i + 1, by go_num, by omega, by rw [HT.out]; simp [HD.out]⟩, ?_⟩
            simp [intOf]; omega
        · rw [List.take_of_length_le (by omega)]
          have hii : decide ((i : Int) < (L.length : Int)) = false := by simp; omega
          by_cases hall : (L.all fun q => (k + 2) % q != 0) = true
          · rw [hall]
            have hs1 : pr (k + 1) = L ++ [k + 2] := by rw [HS.out, if_pos hall]
            have H1 := Lib.hid hs1
            have ho := HO.out
            have hlen1 : (pr (k + 1)).length = L.length + 1 := by rw [hs1]; simp
            clear hs1 hall
            go_wp2_with (at_builtin; refine wpList_append_own _ rfl _ _ 34 rfl w.heap.size 40 i0 (.int .u64 0) 1 8 Tryd.underlying34 hi0 hz0 hz1 hz2 rfl (by decide) _ _ _ rfl (ho.alloc _) ⟨wr.heap.size, 0, none⟩ 1 1 [.int .u64 ((k : Int) + 2)] rfl rfl ?c1 ?c2 ?c3 ?c4 ?c5 ?_)
            case c2 => first | rfl | (intro u hu; simp at hu; subst hu; rfl)
            case c3 => unfold maxLen; omega
            case c4 => omega
            case c5 => have := HB.out.size; omega
            intro v' w' hown' hgrow hnil
            have hown2 : w'.ownsRow w.heap.size 40 1 v' (pr (k + 1)).length (u64s (pr (k + 1))) := by
              rw [hlen1, H1.out]
              have e : u64s (L ++ [k + 2]) = u64s L ++ [.int .u64 ((k : Int) + 2)] := by simp [u64s]
              rw [e]; exact hown'
            have hbel2 : Below w.heap.size w w' := (HB.out.alloc HB.out.size _).grown hgrow (by have := HB.out.size; simp; omega) (fun q hq => (ho.lt q hq).1)
            have G1 := Lib.hid hown2
            have G2 := Lib.hid hbel2
            clear hown' hgrow hown2 hbel2 ho hnil
            go_wp2
            refine ⟨⟨_, k + 1, rfl, by congr 1, by omega, G1.out, G2.out⟩, ?_⟩
            simp [intOf]; omega
          · have hall' : (L.all fun q => (k + 2) % q != 0) = false := by simpa using hall
            rw [hall']
            have hs1 : pr (k + 1) = L := by rw [HS.out, if_neg hall]
            have H1 := Lib.hid hs1
            clear hs1 hall hall'
            go_wp2
            refine ⟨⟨_, k + 1, rfl, by congr 1, by omega, by rw [H1.out]; exact HO.out, HB.out⟩, ?_⟩
            simp [intOf]; omega
    · have hk310 : k = 310 := by omega
      rw [hk310, pr_310] at hown
      obtain ⟨a, c, rfl, hnc, hcm, hcell⟩ := row_u64 hown
      obtain ⟨g, rfl, hgb, _, hc⟩ := hcell (by decide)
      have hfin : ∀ i, i < 64 → wr.cell? ⟨g, i, none⟩ = some (.int .u64 ((PRIMES.getD i 0 : Nat) : Int)) := fun i hi => by
        rw [hc i hi, u64s_get (by exact hi)]
      have H1 := Lib.hid hfin
      have HB := Lib.hid hbel
      have hl64 : PRIMES.length = 64 := rfl
      rw [hl64] at hnc ⊢
      clear hc hcell hfin hbel hown
      go_wp2
      go_ret
      exact ⟨g, c, rfl, hgb, hnc, hcm, H1.out, HB.out⟩
end Go.Proofs.YtopchpaiehoilaaDoor
