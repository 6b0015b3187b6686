/-
  Proved: PackBack of escapementlaw1 returns true for every input, and leaves what it was handed as it was. No conditions.
-/
import Derived.Test.YthgcoeienbgmhaaRows
import Derived.Test.YthgcoeienbgmhaaArg
import Derived.Test.YthgcoeienbgmhaaAwk
import Derived.Deep.RegionHeld3
import Derived.WalkKit
import Derived.ProofKit
import Derived.OpenShut
import Derived.ShutString
import Derived.ChangeOld
import Derived.SizedLaws
namespace Go.Proofs.Ythgcoeienbgmhaa.packBack
open Go.ChangeShapes Go.WideShapes Go.ChangeAt Go.RowKit
open Go.ChangeMaps (open_string shut_string)
set_option linter.unusedVariables false

theorem own : ownKnob Try.prog.godebug = none := by kernel_rfl
theorem laidOut : laidOutB Try.prog = true := by kernel_rfl

def encU (l : List Nat) : List UInt8 := l.flatMap fun n => Lib.uvarint n
def encI (l : List Int) : List UInt8 := l.flatMap fun n => Lib.uvarint (Lib.zigzag n)
def encS (l : List ByteArray) : List UInt8 := l.flatMap fun s => Lib.uvarint s.size ++ s.data.toList

theorem flat_take {α : Type} (f : α → List UInt8) (l : List α) (k : Nat) (h : k < l.length) : (l.take (k + 1)).flatMap f = (l.take k).flatMap f ++ f l[k] := by
  rw [List.take_succ_eq_append_getElem h, List.flatMap_append]
  simp
theorem flat_drop {α : Type} (f : α → List UInt8) (l : List α) (k : Nat) (h : k < l.length) : (l.drop k).flatMap f = f l[k] ++ (l.drop (k + 1)).flatMap f := by
  rw [List.drop_eq_getElem_cons h, List.flatMap_cons]
theorem flat_len {α : Type} (f : α → List UInt8) (b : Nat) : ∀ (l : List α), (∀ x ∈ l, (f x).length ≤ b) → (l.flatMap f).length ≤ l.length * b
  | [], _ => by simp
  | x :: r, h => by
    rw [List.flatMap_cons, List.length_append, List.length_cons, Nat.add_mul]
    have h1 := flat_len f b r (fun y hy => h y (List.mem_cons_of_mem _ hy))
    have h2 := h x (List.mem_cons_self ..)
    omega

set_option maxHeartbeats 4000000 in
theorem walk (a_u : Option Addr) (c_u : Nat) (u : List Int) (a_v : Option Addr) (c_v : Nat) (v : List Int) (a_s : Option Addr) (c_s : Nat) (s : List ByteArray) (w : World) (l_u : u.length ≤ c_u) (m_u : c_u ≤ maxLen) (t_u : Row (Value.int .u64) w a_u u) (r_u : ∀ n ∈ u, (Lit.int .u64 n).wf = true) (l_v : v.length ≤ c_v) (m_v : c_v ≤ maxLen) (t_v : Row (Value.int .i64) w a_v v) (r_v : ∀ n ∈ v, (Lit.int .i64 n).wf = true) (l_s : s.length ≤ c_s) (m_s : c_s ≤ maxLen) (t_s : Row Value.string w a_s s) (r_s : ∀ x ∈ s, x.size ≤ maxLen) :
    Calls Try.prog 6 #[.slice a_u u.length c_u, .slice a_v v.length c_v, .slice a_s s.length c_s] w fun e w' => e = .returned (.bool true) ∧ Below w.heap.size w w' := by
  obtain ⟨un, hun, tun, run⟩ := nats_of_row t_u r_u
  rw [← hun]
  clear t_u r_u l_u m_u l_v m_v l_s m_s
  clear hun u
  have lU : ∀ k, k ≤ 40 → (encU (un.take k)).length ≤ 400 := by
    intro k hk
    have h1 := flat_len (fun n => Lib.uvarint n) 10 (un.take k) (fun x hx => Lib.uvarint_length64 (run x (List.mem_of_mem_take hx)))
    have h2 : (un.take k).length ≤ k := List.length_take_le _ _
    unfold encU
    omega
  go_enter Try.func6, Try.ntmps6
  go_wp2_with fail
  refine (awake_any w).mono ?_
  rintro e w1 ⟨rfl, hb1⟩
  by_cases h1 : 40 < un.length
  · go_wp2_with fail
    go_ret
    exact ⟨rfl, hb1⟩
  by_cases h2 : 40 < v.length
  · go_wp2_with fail
    go_ret
    exact ⟨rfl, hb1⟩
  by_cases h3 : 20 < s.length
  · go_wp2_with fail
    go_ret
    exact ⟨rfl, hb1⟩
  have lV : ∀ k, k ≤ 40 → (encI (v.take k)).length ≤ 400 := by
    intro k hk
    have h1 := flat_len (fun n => Lib.uvarint (Lib.zigzag n)) 10 (v.take k) (fun x hx => Lib.uvarint_length64 (Lib.zigzag_lt (i64_wf (r_v x (List.mem_of_mem_take hx))).1 (i64_wf (r_v x (List.mem_of_mem_take hx))).2))
    have h2 : (v.take k).length ≤ k := List.length_take_le _ _
    unfold encI
    omega
  have HLU := Lib.hid lU
  have HLV := Lib.hid lV
  have HRU := Lib.hid run
  have HRV := Lib.hid r_v
  have HRS := Lib.hid r_s
  clear lU lV run r_v r_s
  go_wp2_with fail
  go_loopw [7, 8] (fun vb vi wr => ∃ k a c, vi = .int .i64 ((k : Nat) : Int) ∧ k ≤ un.length ∧ vb = .slice a (encU (un.take k)).length c ∧ Txt wr a (encU (un.take k)) ∧ Below w.heap.size w wr) (fun _ vi _ => un.length - (intOf vi).toNat)
  case atStart => exact ⟨0, none, 0, rfl, Nat.zero_le _, rfl, Txt.nil _ _, hb1⟩
  case round =>
    obtain ⟨k, a, c, rfl, hk, rfl, ht, hb⟩ := hrel
    by_cases hlt : k < un.length
    · have hl := HLU.out k (by omega)
      obtain ⟨b, o, rfl, hbl, hcell⟩ := tun (by rintro rfl; simp at hlt)
      have hc := (hb.cell (p := ⟨b, o + k, none⟩) hbl).trans (hcell k hlt)
      have hx := HRU.out _ (List.getElem_mem hlt)
      have he := flat_take (fun n => Lib.uvarint n) un k hlt
      generalize un[k] = x at hc hx he
      have HE := Lib.hid he
      clear he hcell
      go_wp2_with fail
      refine (U_gives a c x _ wr ht hx (by omega)).mono ?_
      rintro e w2 ⟨a2, c2, rfl, t2, l2, m2, hb2⟩
      have hB2 := hb.trans (hb2.mono hb.size)
      have e2 : encU (un.take k) ++ Lib.uvarint x = encU (un.take (k + 1)) := HE.out.symm
      rw [e2] at t2 ⊢
      clear e2 hb hb2 ht l2 m2
      go_wp2_with fail
      go_roundw
      case rel => exact ⟨k + 1, a2, c2, by go_num, by omega, rfl, t2, hB2⟩
      case measure => simp [intOf]; omega
    · obtain rfl : k = un.length := by omega
      rw [List.take_length] at ht ⊢
      have hl := HLU.out un.length (by omega)
      rw [List.take_length] at hl
      clear HLU
      generalize hLu : encU un = Lu at *
      have HU := Lib.hid hLu
      clear hLu
      obtain ⟨wA, rfl⟩ : ∃ x : World, x = wr := ⟨_, rfl⟩
      go_wp2_with fail
      go_loopw [7, 9] (fun vb vi wr => ∃ k a c, vi = .int .i64 ((k : Nat) : Int) ∧ k ≤ v.length ∧ vb = .slice a (Lu ++ encI (v.take k)).length c ∧ Txt wr a (Lu ++ encI (v.take k)) ∧ Below w.heap.size w wr) (fun _ vi _ => v.length - (intOf vi).toNat)
      case atStart => exact ⟨0, a, c, rfl, Nat.zero_le _, by simp [encI], by simpa [encI] using ht, hb⟩
      case round =>
        clear hb ht
        obtain ⟨k, a, c, rfl, hk, rfl, ht, hb⟩ := hrel
        have hl2 := HLV.out k (by omega)
        by_cases hlt : k < v.length
        · obtain ⟨b, o, rfl, hbl, hcell⟩ := t_v (by rintro rfl; simp at hlt)
          have hc := (hb.cell (p := ⟨b, o + k, none⟩) hbl).trans (hcell k hlt)
          obtain ⟨hx0, hx1⟩ := i64_wf (HRV.out _ (List.getElem_mem hlt))
          have he := flat_take (fun n => Lib.uvarint (Lib.zigzag n)) v k hlt
          generalize v[k] = x at hc hx0 hx1 he
          have HE := Lib.hid he
          have hlen : (Lu ++ encI (v.take k)).length ≤ 800 := by rw [List.length_append]; omega
          clear he hcell
          obtain ⟨L, hL⟩ : ∃ L, L = Lu ++ encI (v.take k) := ⟨_, rfl⟩
          rw [← hL] at ht hlen ⊢
          have HL := Lib.hid hL
          clear hL
          go_wp2_with fail
          refine (I_gives a c x L wr ht hx0 hx1 (by omega)).mono ?_
          rintro e w2 ⟨a2, c2, rfl, t2, l2, m2, hb2⟩
          have hB2 := hb.trans (hb2.mono hb.size)
          have e2 : L ++ Lib.uvarint (Lib.zigzag x) = Lu ++ encI (v.take (k + 1)) := by
            rw [HL.out, List.append_assoc]
            exact congrArg _ HE.out.symm
          obtain ⟨L2, hL2⟩ : ∃ L2, L2 = L ++ Lib.uvarint (Lib.zigzag x) := ⟨_, rfl⟩
          rw [← hL2] at t2 e2 ⊢
          have HL2 := Lib.hid e2
          clear e2 hL2 hb hb2 ht l2 m2
          go_wp2_with fail
          go_roundw
          case rel => exact ⟨k + 1, a2, c2, by go_num, by omega, by rw [HL2.out], by rw [← HL2.out]; exact t2, hB2⟩
          case measure => simp [intOf]; omega
        · obtain rfl : k = v.length := by omega
          rw [List.take_length] at ht hl2 ⊢
          clear HLV
          have hlen : (Lu ++ encI v).length ≤ 800 := by rw [List.length_append]; omega
          obtain ⟨Lv, hLv⟩ : ∃ L, L = Lu ++ encI v := ⟨_, rfl⟩
          rw [← hLv] at ht hlen ⊢
          have HV := Lib.hid hLv
          clear hLv hl2
          obtain ⟨wB, rfl⟩ : ∃ x : World, x = wr := ⟨_, rfl⟩
          go_wp2_with fail
          go_loopw [7, 10] (fun vb vi wr => ∃ k a c, vi = .int .i64 ((k : Nat) : Int) ∧ k ≤ s.length ∧ vb = .slice a (Lv ++ encS (s.take k)).length c ∧ Txt wr a (Lv ++ encS (s.take k)) ∧ Below w.heap.size w wr ∧ (Lv ++ encS (s.take k)).length ≤ 800 + k * 210 ∧ (∀ x ∈ s.take k, x.size ≤ 200)) (fun _ vi _ => s.length - (intOf vi).toNat)
          case atStart => exact ⟨0, a, c, rfl, Nat.zero_le _, by simp [encS], by simpa [encS] using ht, hb, by simpa [encS] using hlen, by simp⟩
          case round =>
            clear hb ht
            obtain ⟨k, a, c, rfl, hk, rfl, ht, hb, hl3, h200⟩ := hrel
            by_cases hlt : k < s.length
            · obtain ⟨b, o, rfl, hbl, hcell⟩ := t_s (by rintro rfl; simp at hlt)
              have hc := (hb.cell (p := ⟨b, o + k, none⟩) hbl).trans (hcell k hlt)
              have he := flat_take (fun x : ByteArray => Lib.uvarint x.size ++ x.data.toList) s k hlt
              have hm : s.take (k + 1) = s.take k ++ [s[k]] := List.take_succ_eq_append_getElem hlt
              generalize s[k] = x at hc he hm
              have HE := Lib.hid he
              have HM := Lib.hid hm
              have H2 := Lib.hid h200
              clear he hcell hm h200
              obtain ⟨L, hL⟩ : ∃ L, L = Lv ++ encS (s.take k) := ⟨_, rfl⟩
              rw [← hL] at ht hl3 ⊢
              have HL := Lib.hid hL
              clear hL
              by_cases hbig : 200 < x.size
              · go_wp2_with fail
                go_ret
                exact ⟨rfl, hb⟩
              · go_wp2_with fail
                refine (S_gives a c x L wr ht (by omega)).mono ?_
                rintro e w2 ⟨a2, c2, rfl, t2, l2, m2, hb2⟩
                have hB2 := hb.trans (hb2.mono hb.size)
                have e2 : L ++ Lib.uvarint x.size ++ x.data.toList = Lv ++ encS (s.take (k + 1)) := by
                  rw [HL.out, List.append_assoc, List.append_assoc]
                  exact congrArg _ HE.out.symm
                have hx10 := Lib.uvarint_length64 (x := x.size) (by omega)
                obtain ⟨L2, hL2⟩ : ∃ L2, L2 = L ++ Lib.uvarint x.size ++ x.data.toList := ⟨_, rfl⟩
                have hlL2 : L2.length ≤ 800 + (k + 1) * 210 := by
                  have e5 : x.data.toList.length = x.size := by rw [Array.length_toList]; rfl
                  rw [hL2, List.length_append, List.length_append, e5]
                  omega
                rw [← hL2] at t2 e2 ⊢
                have HL2 := Lib.hid e2
                clear e2 hL2 hb hb2 ht l2 m2
                go_wp2_with fail
                go_roundw
                case rel => exact ⟨k + 1, a2, c2, by go_num, by omega, by rw [HL2.out], by rw [← HL2.out]; exact t2, hB2, by rw [← HL2.out]; exact hlL2, by
                  intro y hy
                  rw [HM.out, List.mem_append, List.mem_singleton] at hy
                  rcases hy with hy | rfl
                  · exact H2.out y hy
                  · omega⟩
                case measure => simp [intOf]; omega
            · obtain rfl : k = s.length := by omega
              rw [List.take_length] at ht hl3 h200 ⊢
              obtain ⟨La, hLa⟩ : ∃ L, L = Lv ++ encS s := ⟨_, rfl⟩
              rw [← hLa] at ht hl3 ⊢
              have HA := Lib.hid hLa
              have H2 := Lib.hid h200
              clear hLa h200
              obtain ⟨wC, rfl⟩ : ∃ x : World, x = wr := ⟨_, rfl⟩
              go_wp2_with fail
              refine (Read_any a c La wC ht (by omega)).mono ?_
              rintro e wD ⟨g, rfl, gC, r0, hb2⟩
              have hB := hb.trans (hb2.mono hb.size)
              have gw : w.heap.size ≤ g := Nat.le_trans hb.size gC
              clear hb hb2 gC ht
              rw [show La = encU (un.drop 0) ++ encI v ++ encS s by rw [HA.out, HV.out, ← HU.out]; rfl] at r0
              go_wp2_with fail
              go_loopw [12] (fun vi wr => ∃ k, vi = .int .i64 ((k : Nat) : Int) ∧ k ≤ un.length ∧ Rd 50 wr g (encU (un.drop k) ++ encI v ++ encS s, false) ∧ Below w.heap.size w wr) (fun vi _ => un.length - (intOf vi).toNat)
              case atStart => exact ⟨0, rfl, Nat.zero_le _, r0, hB⟩
              case round =>
                clear r0 hB
                obtain ⟨k, rfl, hk, r1, hb⟩ := hrel
                by_cases hlt : k < un.length
                · obtain ⟨b, o, rfl, hbl, hcell⟩ := tun (by rintro rfl; simp at hlt)
                  have hc := (hb.cell (p := ⟨b, o + k, none⟩) hbl).trans (hcell k hlt)
                  have hx := HRU.out _ (List.getElem_mem hlt)
                  have he := flat_drop (fun n => Lib.uvarint n) un k hlt
                  generalize un[k] = x at hc hx he
                  have he2 : rdU (encU (un.drop k) ++ encI v ++ encS s, false) = (x, encU (un.drop (k + 1)) ++ encI v ++ encS s, false) := by
                    unfold encU
                    rw [he, List.append_assoc, List.append_assoc, rdU_uvarint hx, List.append_assoc]
                  have HE := Lib.hid he2
                  clear he hcell he2
                  go_wp2_with fail
                  go_region_held3 (fun w' => w'.cell? ⟨b, o + k, none⟩ = some (.int .u64 (x : Int))) (first | exact hc | exact (World.cell?_of_block (w := wr.drew) (a := ⟨b, o + k, none⟩) (hg2.block b (Nat.lt_of_lt_of_le hbl hb.size) (fun e => by injection e; omega))).trans hc)
                    (first | (go_at_call 12; refine (RU_any g (encU (un.drop k) ++ encI v ++ encS s, false) _ ?_).mono ?_; exact r1.drew; rw [HE.out]; rintro e w2 ⟨rfl, r2, hg2⟩))
                  have hB2 : Below w.heap.size w w2 := below_grown hb.drew hg2 hb.size gw
                  clear hg2 hb r1 hc
                  go_wp2_with fail
                  go_roundw
                  case rel => exact ⟨k + 1, by go_num, by omega, r2, hB2⟩
                  case measure => simp [intOf]; omega
                · obtain rfl : k = un.length := by omega
                  rw [List.drop_length] at r1
                  have r0 : Rd 50 wr g (encI (v.drop 0) ++ encS s, false) := r1
                  clear r1
                  obtain ⟨wE, rfl⟩ : ∃ x : World, x = wr := ⟨_, rfl⟩
                  go_wp2_with fail
                  go_loopw [13] (fun vi wr => ∃ k, vi = .int .i64 ((k : Nat) : Int) ∧ k ≤ v.length ∧ Rd 50 wr g (encI (v.drop k) ++ encS s, false) ∧ Below w.heap.size w wr) (fun vi _ => v.length - (intOf vi).toNat)
                  case atStart => exact ⟨0, rfl, Nat.zero_le _, r0, hb⟩
                  case round =>
                    clear r0 hb
                    obtain ⟨k, rfl, hk, r1, hb⟩ := hrel
                    by_cases hlt : k < v.length
                    · obtain ⟨b, o, rfl, hbl, hcell⟩ := t_v (by rintro rfl; simp at hlt)
                      have hc := (hb.cell (p := ⟨b, o + k, none⟩) hbl).trans (hcell k hlt)
                      obtain ⟨hx0, hx1⟩ := i64_wf (HRV.out _ (List.getElem_mem hlt))
                      have he := flat_drop (fun n => Lib.uvarint (Lib.zigzag n)) v k hlt
                      generalize v[k] = x at hc hx0 hx1 he
                      have he2 : rdI (encI (v.drop k) ++ encS s, false) = (x, encI (v.drop (k + 1)) ++ encS s, false) := by
                        unfold encI
                        rw [he, List.append_assoc, rdI_uvarint hx0 hx1]
                      have HE := Lib.hid he2
                      clear he hcell he2
                      go_wp2_with fail
                      go_region_held3 (fun w' => w'.cell? ⟨b, o + k, none⟩ = some (.int .i64 x)) (first | exact hc | exact (World.cell?_of_block (w := wr.drew) (a := ⟨b, o + k, none⟩) (hg2.block b (Nat.lt_of_lt_of_le hbl hb.size) (fun e => by injection e; omega))).trans hc)
                        (first | (go_at_call 16; refine (RI_any g (encI (v.drop k) ++ encS s, false) _ ?_).mono ?_; exact r1.drew; rw [HE.out]; rintro e w2 ⟨rfl, r2, hg2⟩))
                      have hB2 : Below w.heap.size w w2 := below_grown hb.drew hg2 hb.size gw
                      clear hg2 hb r1 hc
                      go_wp2_with fail
                      go_roundw
                      case rel => exact ⟨k + 1, by go_num, by omega, r2, hB2⟩
                      case measure => simp [intOf]; omega
                    · obtain rfl : k = v.length := by omega
                      rw [List.drop_length] at r1
                      have r0 : Rd 50 wr g (encS (s.drop 0), false) := r1
                      clear r1
                      obtain ⟨wF, rfl⟩ : ∃ x : World, x = wr := ⟨_, rfl⟩
                      go_wp2_with fail
                      go_loopw [14] (fun vi wr => ∃ k, vi = .int .i64 ((k : Nat) : Int) ∧ k ≤ s.length ∧ Rd 50 wr g (encS (s.drop k), false) ∧ Below w.heap.size w wr) (fun vi _ => s.length - (intOf vi).toNat)
                      case atStart => exact ⟨0, rfl, Nat.zero_le _, r0, hb⟩
                      case round =>
                        clear r0 hb
                        obtain ⟨k, rfl, hk, r1, hb⟩ := hrel
                        by_cases hlt : k < s.length
                        · obtain ⟨b, o, rfl, hbl, hcell⟩ := t_s (by rintro rfl; simp at hlt)
                          have hc := (hb.cell (p := ⟨b, o + k, none⟩) hbl).trans (hcell k hlt)
                          have h200 := H2.out _ (List.getElem_mem hlt)
                          have he := flat_drop (fun x : ByteArray => Lib.uvarint x.size ++ x.data.toList) s k hlt
                          generalize s[k] = x at hc h200 he
                          have he2 : rdS (encS (s.drop k), false) = (x.data.toList, encS (s.drop (k + 1)), false) := by
                            unfold encS
                            have e5 : x.size = x.data.toList.length := by rw [Array.length_toList]; rfl
                            rw [he, e5, rdS_uvarint (by omega)]
                          have e6 : (⟨x.data.toList.toArray⟩ : ByteArray) = x := rfl
                          have HE := Lib.hid he2
                          clear he hcell he2
                          go_wp2_with fail
                          go_region_held3 (fun w' => w'.cell? ⟨b, o + k, none⟩ = some (.string x)) (first | exact hc | exact (World.cell?_of_block (w := wr.drew) (a := ⟨b, o + k, none⟩) (hg2.block b (Nat.lt_of_lt_of_le hbl hb.size) (fun e => by injection e; omega))).trans hc)
                            (first | (go_at_call 15; refine (RS_any g (encS (s.drop k), false) _ ?_).mono ?_; exact r1.drew; rw [HE.out]; rintro e w2 ⟨rfl, r2, hg2⟩))
                          have hB2 : Below w.heap.size w w2 := below_grown hb.drew hg2 hb.size gw
                          clear hg2 hb r1 hc
                          go_wp2_with fail
                          go_roundw
                          case rel => exact ⟨k + 1, by go_num, by omega, r2, hB2⟩
                          case measure => simp [intOf]; omega
                        · obtain rfl : k = s.length := by omega
                          rw [List.drop_length] at r1
                          have r0 : Rd 50 wr g ([], false) := r1
                          clear r1
                          go_wp2_with fail
                          refine (Left_any g _ wr r0).mono ?_
                          rintro e w9 ⟨rfl, rfl⟩
                          go_wp2_with fail
                          refine (Bad_any g _ wr r0).mono ?_
                          rintro e w9 ⟨rfl, rfl⟩
                          go_wp2_with fail
                          go_ret
                          exact ⟨rfl, hb⟩

set_option maxRecDepth 100000 in
theorem lifted (os : Os) (started : os.Started) (H : Type) (enc : TypeId × Value → H) :
    ReturnsInHanded {} Try.checked os 6 .any (Rows.packBackSpec.pre6 enc Try.prog Try.f6 Rows.packBackRow.domain false) (Rows.packBackSpec.post enc Try.prog Try.f6 false true false false) := by
  refine returnsInHanded_of_change (C := Try.checked) own started (by kernel_rfl) Try.func6
    (ChangeSpec.witness6 (enc := enc) (C := Try.checked) false ⟨#[], #[.slice none 0 0, .slice none 0 0, .slice none 0 0], []⟩ 8 (by kernel_rfl) (by kernel_rfl) (by kernel_rfl) (by kernel_rfl)) ?_
  intro W base args ds gs before hval0 hW hcnd _
  have hval : ∀ (j : Nat) t v, Try.f6.params[j]? = some t → args[j]? = some v → Value.okWide Try.prog W .any base t v := hval0
  have hW' := hW
  obtain ⟨p, q, hA0, hV, rfl, hfz, hnd⟩ := hW
  have hA : DataW.TrodAll enc Try.prog W 0 (fun _ => true) true Try.f6.params.toList args.toList ds p := hA0
  rw [Try.params6] at hA hval
  obtain ⟨v0, vs0, d0, ds0, p0, q0, hargs, rfl, rfl, h0, r0⟩ := trodAll_cons hA
  obtain ⟨v1, vs1, d1, ds1, p1, q1, rfl, rfl, rfl, h1, r1⟩ := trodAll_cons r0
  obtain ⟨v2, vs2, d2, ds2, p2, q2, rfl, rfl, rfl, h2, r2⟩ := trodAll_cons r1
  obtain ⟨rfl, rfl, rfl⟩ := trodAll_nil r2
  obtain rfl : args = #[v0, v1, v2] := by cases args; simp_all
  obtain ⟨rfl, rfl⟩ := trodVars_none hV
  obtain ⟨a_u, len_u, c_u, rfl⟩ := okWide_slice Try.underlying40 (hval 0 40 v0 rfl rfl)
  have k0 := h0
  have lt0 : ∀ x ∈ p0, x.block < W.heap.size := by obtain ⟨m, hm⟩ := k0; exact DataW.trod_lt m _ _ _ hm
  obtain ⟨u, n_u, l_u, m_u, t_u, r_u⟩ : ∃ u : List Int, u.length = len_u ∧ u.length ≤ c_u ∧ c_u ≤ maxLen ∧ Row (Value.int .u64) W a_u u ∧ (∀ n ∈ u, (Lit.int .u64 n).wf = true) := by
    obtain ⟨fuel, hf⟩ := h0
    rcases open_ints Try.underlying40 Try.underlying26 (by kernel_rfl) hf with ⟨hcs, _⟩ | ⟨x, l, c, zs, hcs, _, hl, hm, hz, _, hcell, hwz⟩
    · simp [Value.cells] at hcs
      obtain ⟨rfl, rfl, rfl⟩ := hcs
      exact ⟨[], rfl, Nat.zero_le _, Nat.zero_le _, Row.nil _ _ _, fun _ h => by cases h⟩
    · simp [Value.cells] at hcs
      obtain ⟨rfl, rfl, rfl⟩ := hcs
      have hr := row_some (f := Value.int .u64) hl (by simpa using hz) hcell
      exact ⟨_, hr.1, by rw [hr.1]; exact hl, hm, hr.2, fun n hn => hwz n (List.mem_of_mem_take hn)⟩
  subst n_u
  obtain ⟨a_v, len_v, c_v, rfl⟩ := okWide_slice Try.underlying41 (hval 1 41 v1 rfl rfl)
  have k1 := h1
  have lt1 : ∀ x ∈ p1, x.block < W.heap.size := by obtain ⟨m, hm⟩ := k1; exact DataW.trod_lt m _ _ _ hm
  obtain ⟨v, n_v, l_v, m_v, t_v, r_v⟩ : ∃ v : List Int, v.length = len_v ∧ v.length ≤ c_v ∧ c_v ≤ maxLen ∧ Row (Value.int .i64) W a_v v ∧ (∀ n ∈ v, (Lit.int .i64 n).wf = true) := by
    obtain ⟨fuel, hf⟩ := h1
    rcases open_ints Try.underlying41 Try.underlying2 (by kernel_rfl) hf with ⟨hcs, _⟩ | ⟨x, l, c, zs, hcs, _, hl, hm, hz, _, hcell, hwz⟩
    · simp [Value.cells] at hcs
      obtain ⟨rfl, rfl, rfl⟩ := hcs
      exact ⟨[], rfl, Nat.zero_le _, Nat.zero_le _, Row.nil _ _ _, fun _ h => by cases h⟩
    · simp [Value.cells] at hcs
      obtain ⟨rfl, rfl, rfl⟩ := hcs
      have hr := row_some (f := Value.int .i64) hl (by simpa using hz) hcell
      exact ⟨_, hr.1, by rw [hr.1]; exact hl, hm, hr.2, fun n hn => hwz n (List.mem_of_mem_take hn)⟩
  subst n_v
  obtain ⟨a_s, len_s, c_s, rfl⟩ := okWide_slice Try.underlying42 (hval 2 42 v2 rfl rfl)
  have k2 := h2
  have lt2 : ∀ x ∈ p2, x.block < W.heap.size := by obtain ⟨m, hm⟩ := k2; exact DataW.trod_lt m _ _ _ hm
  obtain ⟨s, n_s, l_s, m_s, t_s, r_s⟩ : ∃ s : List ByteArray, s.length = len_s ∧ s.length ≤ c_s ∧ c_s ≤ maxLen ∧ Row Value.string W a_s s ∧ (∀ x ∈ s, x.size ≤ maxLen) := by
    obtain ⟨fuel, hf⟩ := h2
    rcases open_strings Try.underlying42 Try.underlying9 (by kernel_rfl) hf with ⟨hcs, _⟩ | ⟨x, l, c, zs, hcs, _, hl, hm, hz, _, hcell, hwz⟩
    · simp [Value.cells] at hcs
      obtain ⟨rfl, rfl, rfl⟩ := hcs
      exact ⟨[], rfl, Nat.zero_le _, Nat.zero_le _, Row.nil _ _ _, fun _ h => by cases h⟩
    · simp [Value.cells] at hcs
      obtain ⟨rfl, rfl, rfl⟩ := hcs
      have hr := row_some (f := Value.string) hl (by simpa using hz) hcell
      exact ⟨_, hr.1, by rw [hr.1]; exact hl, hm, hr.2, fun s hs => hwz s (List.mem_of_mem_take hs)⟩
  subst n_s
  clear hA0 hval0
  refine (walk a_u c_u u a_v c_v v a_s c_s s W l_u m_u t_u r_u l_v m_v t_v r_v l_s m_s t_s r_s).mono fun e W' ⟨he, bel⟩ => ?_
  subst he
  exact ⟨_, rfl, _, _, _, [], _, [], hW', trodAll_mk1 (shut_bool Try.underlying4 _), (trodAll_cons_mk (Below.trod laidOut (by kernel_rfl) (of_decide_eq_true (by kernel_rfl)) k0 bel lt0) (trodAll_cons_mk (Below.trod laidOut (by kernel_rfl) (of_decide_eq_true (by kernel_rfl)) k1 bel lt1) (trodAll_cons_mk (Below.trod laidOut (by kernel_rfl) (of_decide_eq_true (by kernel_rfl)) k2 bel lt2) trodAll_mk0))), rfl, bel.frame _, fun h => by cases h⟩

theorem over : Rows.packBackRow.holds Try.pinned (OpenSpec.ofChange Rows.packBackSpec) :=
  OpenClaim.holds_of_wide 6 Try.f6 rfl rfl rfl rfl rfl rfl rfl ⟨rfl, rfl, rfl, rfl, rfl⟩ rfl rfl rfl rfl rfl (by kernel_rfl) Try.func6 (by kernel_rfl)
    (of_decide_eq_true (by kernel_rfl)) (by unfold Func.isWrapper; first | (rw [if_pos (by decide +kernel)]; kernel_rfl) | (rw [if_neg (by decide +kernel)]; exact ⟨rfl, rfl⟩))
    (fun os started H enc _ => lifted os started H enc)

theorem proved : Rows.PackBackSaid := over
#print axioms proved
end Go.Proofs.Ythgcoeienbgmhaa.packBack
