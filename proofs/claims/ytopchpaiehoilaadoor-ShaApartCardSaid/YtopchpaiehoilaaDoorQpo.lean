/-
  What the document's own power does.
-/
import Derived.Test.YtopchpaiehoilaaDoorQpr
import Derived.Test.YtopchpaiehoilaaDoorQro
import Derived.Test.YtopchpaiehoilaaDoorQli
import Derived.Test.YtopchpaiehoilaaDoorHwr
import Derived.Deep.QuietTactic
import Derived.BigQuiet
namespace Go.Proofs.YtopchpaiehoilaaDoor
open Go Go.RowKit

/-- Block g holds the numbers L. -/
def URow (w : World) (g : Nat) (L : List Nat) : Prop := w.heap[g]? = some (.cells (u64s L).toArray 40 (0, 0))
theorem URow.lt {w : World} {g : Nat} {l : List Nat} (h : URow w g l) : g < w.heap.size := (Array.getElem?_eq_some_iff.1 h).1
theorem URow.below {w w' : World} {g : Nat} {l : List Nat} (h : URow w g l) (hb : Below w.heap.size w w') : URow w' g l := (hb.block g h.lt).trans h
theorem URow.cell {w : World} {g : Nat} {l : List Nat} (h : URow w g l) (i : Nat) (hi : i < l.length) : w.cell? ⟨g, i, none⟩ = some (.int .u64 ((l.getD i 0 : Nat) : Int)) := by
  have h' : w.heap[g]? = some (.cells (u64s l).toArray 40 (0, 0)) := h
  simp [World.cell?, h', u64s, hi]
theorem URow.frozen {w : World} {g : Nat} {l : List Nat} (h : URow w g l) (i : Nat) : w.frozen? ⟨g, i, none⟩ = false := by
  have h' : w.heap[g]? = some (.cells (u64s l).toArray 40 (0, 0)) := h
  simp [World.frozen?, h']
theorem URow.set {w : World} {g : Nat} {l : List Nat} (h : URow w g l) (i x : Nat) : URow (w.setCell ⟨g, i, none⟩ (.int .u64 (x : Int))) g (l.set i x) := by
  have h1 := heap_setCell_same w g i _ _ (.int .u64 (x : Int)) h
  unfold URow
  rw [h1]
  simp [u64s, List.map_set]
theorem URow.other {w : World} {g : Nat} {l : List Nat} (h : URow w g l) (p : Addr) (v : Value) (hp : g ≠ p.block) : URow (w.setCell p v) g l := (heap_setCell_other w p g v hp).trans h

theorem run_make_u64 (n : Nat) (hn : n ≤ 1000) (k1 k2 : Int) (h1 : k1 = (n : Int)) (h2 : k2 = (n : Int)) (W : World) :
    (Instr.makeSlice 34 (.int .i64 k1) (.int .i64 k2)).run Tryd.prog W = .ok (.slice (some ⟨W.heap.size, 0, none⟩) n n) (W.alloc (.cells (u64s (List.replicate n 0)).toArray 40)) := by
  obtain ⟨i0, hi, hz0, hz1, hz2⟩ := info_parts info_u64
  subst h1 h2
  have h := run_make (P := Tryd.prog) W 34 40 i0 (.int .u64 0) Tryd.underlying34 hi hz0 .i64 .i64 (n : Int) (n : Int) (by omega) (by omega) (by rw [hz2]; omega) (by omega)
  rw [h, hz1]
  have e : madeCells #[.int .u64 0] n = (u64s (List.replicate n 0)).toArray := by
    apply Array.ext
    · simp [madeCells, u64s]
    · intro i h1 h2
      simp [madeCells, u64s, Nat.mod_one]
  rw [← e]
  simp [Value.cells]

def three (m : Nat) : List Nat := [m % 65536, m / 65536 % 65536, m / 4294967296]
theorem three_limbs {m : Nat} (h : m < 137438953472) : ∀ y ∈ three m, y < 65536 := by
  intro y hy
  simp only [three, List.mem_cons, List.not_mem_nil, or_false] at hy
  rcases hy with rfl | rfl | rfl <;> omega

/-- What is kept at the head of the outer loop. -/
def Outer (w : World) (m k gd : Nat) (vx vi : Value) (wr : World) : Prop :=
  ∃ (i gx : Nat) (X : List Nat), vx = .slice (some ⟨gx, 0, none⟩) X.length X.length ∧ vi = .int .i64 (i : Int) ∧ 1 ≤ i ∧ i ≤ k ∧ X.length + 1 = 4 * i ∧ (∀ y ∈ X, y < 65536) ∧ val X = m ^ i ∧ URow wr gx X ∧ URow wr gd (three m) ∧ w.heap.size ≤ gx ∧ Below w.heap.size w wr
/-- What is kept while Y is filled. -/
structure Fill (w : World) (m gd gx gy : Nat) (X Y : List Nat) (T : Nat) (wr : World) : Prop where
  len : Y.length = X.length + 4
  limbs : ∀ y ∈ Y, y < 65536
  sum : val Y = T
  rowy : URow wr gy Y
  rowx : URow wr gx X
  rowd : URow wr gd (three m)
  below : Below w.heap.size w wr

theorem below_room {m i n : Nat} (hm : m < 137438953472) (hi : i = 1 ∨ i = 2) (hn : n + 1 = 4 * i) : m ^ (i + 1) < 65536 ^ (n + 4) := by
  have h1 : m ^ (i + 1) ≤ 137438953472 ^ (i + 1) := Nat.pow_le_pow_left (by omega) _
  rcases hi with rfl | rfl
  · obtain rfl : n = 3 := by omega
    exact Nat.lt_of_le_of_lt h1 (by decide)
  · obtain rfl : n = 7 := by omega
    exact Nat.lt_of_le_of_lt h1 (by decide)

/-- A part of the product is no more than the whole. -/
theorem part_le (X : List Nat) (m a b : Nat) (ha : a < X.length) (hb : b < 3) :
    val (X.take a) * m + X.getD a 0 * 65536 ^ a * val ((three m).take (b + 1)) ≤ val X * m := by
  have h1 := val_take_succ X a ha
  have h2 := val_take_le X (a + 1)
  have h3 := val_take_le (three m) (b + 1)
  rw [show val (three m) = m from val_three m] at h3
  have h4 : X.getD a 0 * 65536 ^ a * val ((three m).take (b + 1)) ≤ X.getD a 0 * 65536 ^ a * m := Nat.mul_le_mul_left _ h3
  have h5 : val (X.take (a + 1)) * m ≤ val X * m := Nat.mul_le_mul_right _ h2
  rw [h1, Nat.add_mul] at h5
  omega

theorem prod_step (A m xa P D db Q : Nat) : A * m + xa * P * D + xa * db * (P * Q) = A * m + xa * P * (D + db * Q) := by
  rw [Nat.mul_add, Nat.add_assoc]
  congr 2
  rw [Nat.mul_assoc xa P, Nat.mul_assoc xa db]
  congr 1
  rw [Nat.mul_left_comm]
theorem three_take {m b : Nat} (hb : b < 3) : val ((three m).take (b + 1)) = val ((three m).take b) + (three m).getD b 0 * 65536 ^ b := val_take_succ (three m) b hb
theorem Fill.put {w : World} {m gd gx gy : Nat} {X Y : List Nat} {T : Nat} {wr : World} (h : Fill w m gd gx gy X Y T wr) (hx : gx ≠ gy) (hd : gd ≠ gy) (hg : w.heap.size ≤ gy) (c v : Nat) (hv : v < 65536) : Fill w m gd gx gy X (Y.set c v) (val (Y.set c v)) (wr.setCell ⟨gy, c, none⟩ (.int .u64 (v : Int))) :=
  ⟨by rw [List.length_set]; exact h.len, limbs_set h.limbs hv, rfl, h.rowy.set c v, h.rowx.other _ _ hx, h.rowd.other _ _ hd, h.below.setCell hg _⟩

theorem drop_step {X : List Nat} {s : Nat} (h : s < X.length) : val (X.drop s) = X.getD s 0 + 65536 * val (X.drop (s + 1)) := by
  rw [List.drop_eq_getElem_cons h, val]
  simp [List.getD_eq_getElem?_getD, h]
theorem drop_le (X : List Nat) (s : Nat) : ∀ d, val (X.drop (s + d)) ≤ val (X.drop s)
  | 0 => Nat.le_refl _
  | d + 1 => by
    have ih := drop_le X s d
    by_cases h : s + d < X.length
    · have e := drop_step h
      rw [show s + d + 1 = s + (d + 1) by omega] at e
      omega
    · rw [List.drop_eq_nil_of_le (show X.length ≤ s + (d + 1) by omega)]
      exact Nat.zero_le _
theorem top_small {m k : Nat} (hm : m < 137438953472) (hk : k = 2 ∨ k = 3) : m ^ k / 65536 ^ (2 * k) < 32768 := by
  have h1 : m ^ k ≤ 137438953471 ^ k := Nat.pow_le_pow_left (by omega) _
  have h2 : m ^ k / 65536 ^ (2 * k) ≤ 137438953471 ^ k / 65536 ^ (2 * k) := Nat.div_le_div_right h1
  rcases hk with rfl | rfl
  · exact Nat.lt_of_le_of_lt h2 (by decide)
  · exact Nat.lt_of_le_of_lt h2 (by decide)
theorem or_shift {W x : Nat} (hW : W < 32768) (hx : x < 65536) : bits .or .u64 ((W : Int) * 65536) (x : Int) = ((x + 65536 * W : Nat) : Int) := by
  have h := u64_or_nat (W * 65536) x (by omega) (by omega)
  have e := Nat.two_pow_add_eq_or_of_lt (show x < 2 ^ 16 from hx) W
  rw [show 2 ^ 16 * W = W * 65536 by omega] at e
  rw [← e] at h
  rw [show x + 65536 * W = W * 65536 + x by omega, ← h]
  simp

set_option maxHeartbeats 8000000 in
set_option maxRecDepth 100000 in
theorem power_any (k p : Nat) (hk : k = 2 ∨ k = 3) (hp : p < 65536) : PowerDoes k p := by
  intro m w hm
  have e0 : bits .and .u64 (m : Int) 65535 = ((m % 65536 : Nat) : Int) := by
    have h := u64_and_nat m 65535 (by omega) (by decide)
    rw [show m &&& 65535 = m % 65536 from Nat.and_two_pow_sub_one_eq_mod m 16] at h
    exact h
  have e1 : bits .and .u64 ((m : Int) / 65536) 65535 = ((m / 65536 % 65536 : Nat) : Int) := by
    have h := u64_and_nat (m / 65536) 65535 (by omega) (by decide)
    rw [show (m / 65536) &&& 65535 = m / 65536 % 65536 from Nat.and_two_pow_sub_one_eq_mod _ 16] at h
    simpa using h
  obtain ⟨m0, hm0⟩ : ∃ z, z = m % 65536 := ⟨_, rfl⟩
  obtain ⟨m1, hm1⟩ : ∃ z, z = m / 65536 % 65536 := ⟨_, rfl⟩
  obtain ⟨m2, hm2⟩ : ∃ z, z = m / 4294967296 := ⟨_, rfl⟩
  rw [← hm0] at e0
  rw [← hm1] at e1
  have e2 : (m : Int) / 4294967296 = (m2 : Int) := by omega
  have h3 : three m = [m0, m1, m2] := by rw [hm0, hm1, hm2]; rfl
  have H3 := Lib.hid h3
  have hk3 : k ≤ 3 := by omega
  have HK := Lib.hid hk
  clear h3 hm0 hm1 hm2 hk
  go_enter Tryd.func19, Tryd.ntmps19
  go_wp2
  generalize hW : World.alloc w _ = w1
  have hd1 : URow w1 w.heap.size (three m) := by subst hW; unfold URow; rw [heap_alloc_new, H3.out]; rfl
  have hb1 : Below w.heap.size w w1 := by subst hW; exact (Below.refl _ _).alloc (Nat.le_refl _) _
  clear hW e0 e1 e2
  have D1 := Lib.hid hd1
  have B1 := Lib.hid hb1
  clear hd1 hb1
  go_loopw [8, 9] (fun vx vi wr => Outer w m k w.heap.size vx vi wr)
    (fun _ vi _ => k - (intOf vi).toNat)
  case atStart => exact ⟨1, w.heap.size, three m, rfl, rfl, by omega, by have := HK.out; omega, rfl, three_limbs hm, by rw [show val (three m) = m from val_three m, Nat.pow_one], D1.out, D1.out, Nat.le_refl _, B1.out⟩
  case round =>
    obtain ⟨i, gx, X, rfl, rfl, hi1, hik, hlen, hlimb, hval, hrx, hrd, hgx, hbel⟩ := hrel
    clear D1 B1
    by_cases hlt : i < k
    · have hi12 : i = 1 ∨ i = 2 := by have := HK.out; omega
      have hroom := below_room hm hi12 hlen
      have hxl : X.length ≤ 7 := by omega
      obtain ⟨n, hn⟩ : ∃ n, n = X.length := ⟨_, rfl⟩
      rw [← hn] at hlen hroom hxl ⊢
      have hmk := run_make_u64 (n + 4) (by omega) ((n : Int) + 4) ((n : Int) + 4) (by omega) (by omega) wr
      have hfill : Fill w m w.heap.size gx wr.heap.size X (List.replicate (n + 4) 0) (val (X.take 0) * m) (wr.alloc (.cells (u64s (List.replicate (n + 4) 0)).toArray 40)) := by
        have hb : Below wr.heap.size wr (wr.alloc (.cells (u64s (List.replicate (n + 4) 0)).toArray 40)) := (Below.refl _ _).alloc (Nat.le_refl _) _
        exact ⟨by rw [List.length_replicate, hn], fun y hy => by rw [List.eq_of_mem_replicate hy]; decide, by rw [val_zero, List.take_zero, val, Nat.zero_mul], heap_alloc_new wr _, hrx.below hb, hrd.below hb, hbel.trans (hb.mono hbel.size)⟩
      have hxy : gx ≠ wr.heap.size := Nat.ne_of_lt hrx.lt
      have hdy : w.heap.size ≠ wr.heap.size := Nat.ne_of_lt hrd.lt
      have hgy : w.heap.size ≤ wr.heap.size := hbel.size
      obtain ⟨gy, hgye⟩ : ∃ g, g = wr.heap.size := ⟨_, rfl⟩
      rw [← hgye] at hmk hfill hxy hdy hgy
      have F0 := Lib.hid hfill
      have A1 := Lib.hid hlimb
      have A2 := Lib.hid hval
      have A3 := Lib.hid hlen
      have A4 := Lib.hid hroom
      have A5 := Lib.hid hn
      clear hfill hlimb hval hlen hroom hn hrx hrd hbel hgye
      generalize (u64s (List.replicate (n + 4) 0)).toArray = Z0 at hmk F0
      go_wp2
      generalize wr.alloc (.cells Z0 40) = wy at F0 ⊢
      go_loopw [11] (fun va wa => ∃ (a : Nat) (Y : List Nat), va = .int .i64 (a : Int) ∧ a ≤ n ∧ Fill w m w.heap.size gx gy X Y (val (X.take a) * m) wa)
        (fun va _ => n - (intOf va).toNat)
      case atStart => exact ⟨0, _, rfl, Nat.zero_le _, F0.out⟩
      case round =>
        obtain ⟨a, Y, rfl, han, hF⟩ := hrel
        clear F0
        by_cases hla : a < n
        · have G0 := Lib.hid hF
          have hF0 : Fill w m w.heap.size gx gy X Y (val (X.take a) * m + X.getD a 0 * 65536 ^ a * val ((three m).take 0)) wr := by
            rw [List.take_zero, show val [] = 0 from rfl, Nat.mul_zero, Nat.add_zero]; exact hF
          have F1 := Lib.hid hF0
          clear hF hF0
          go_wp2
          go_loopw [12] (fun vb wb => ∃ (b : Nat) (Y2 : List Nat), vb = .int .i64 (b : Int) ∧ b ≤ 3 ∧ Fill w m w.heap.size gx gy X Y2 (val (X.take a) * m + X.getD a 0 * 65536 ^ a * val ((three m).take b)) wb)
            (fun vb _ => 3 - (intOf vb).toNat)
          case atStart => exact ⟨0, _, rfl, Nat.zero_le _, F1.out⟩
          case round =>
            obtain ⟨b, Y2, rfl, hb3, hF⟩ := hrel
            clear F1 G0
            by_cases hlb : b < 3
            · have hxa := limb_lt A1.out a
              have hdb := limb_lt (three_limbs hm) b
              have cx := hF.rowx.cell a (by rw [← A5.out]; exact hla)
              have cd := hF.rowd.cell b hlb
              have htk := three_take (m := m) hlb
              have hpl := part_le X m a b (by rw [← A5.out]; exact hla) hlb
              have hT0 := prod_step (val (X.take a)) m (X.getD a 0) (65536 ^ a) (val ((three m).take b)) ((three m).getD b 0) (65536 ^ b)
              rw [← htk, ← Nat.pow_add] at hT0
              have hTb : val (X.take a) * m + X.getD a 0 * 65536 ^ a * val ((three m).take (b + 1)) < 65536 ^ (n + 4) := by
                refine Nat.lt_of_le_of_lt hpl ?_
                rw [A2.out, ← Nat.pow_succ]
                exact A4.out
              obtain ⟨T, hT⟩ : ∃ T, T = val (X.take a) * m + X.getD a 0 * 65536 ^ a * val ((three m).take (b + 1)) := ⟨_, rfl⟩
              rw [← hT] at hT0 hTb
              rw [← hF.sum] at hT0
              obtain ⟨xa, hxae⟩ : ∃ x, x = X.getD a 0 := ⟨_, rfl⟩
              obtain ⟨db, hdbe⟩ : ∃ x, x = (three m).getD b 0 := ⟨_, rfl⟩
              rw [← hxae] at hxa cx hT0
              rw [← hdbe] at hdb cd hT0
              obtain ⟨z, hz⟩ : ∃ z, z = xa * db := ⟨_, rfl⟩
              have hzl : z < 4294967296 := by
                rw [hz]
                have h1 : xa * db ≤ 65535 * 65535 := Nat.mul_le_mul (by omega) (by omega)
                omega
              have hzI : IntKind.u64.wrap ((xa : Int) * (db : Int)) = (z : Int) := by
                have e : (xa : Int) * (db : Int) = (z : Int) := by rw [hz]; simp
                rw [e, IntKind.wrap_u64]; omega
              rw [← hz] at hT0
              have hFc : Fill w m w.heap.size gx gy X Y2 (val Y2) wr := ⟨hF.len, hF.limbs, rfl, hF.rowy, hF.rowx, hF.rowd, hF.below⟩
              have B0 := Lib.hid hT0
              have B1 := Lib.hid hTb
              have B2 := Lib.hid hT
              have B3 := Lib.hid hFc
              clear hT0 hTb hT hFc hF hpl htk hxae hdbe hz hxa hdb
              go_wp2
              go_quiet (fail)
              clear cx cd hzI
              have hFd : Fill w m w.heap.size gx gy X Y2 (val Y2) (wr.drewN nq) := ⟨B3.out.len, B3.out.limbs, rfl, B3.out.rowy, B3.out.rowx, B3.out.rowd, below_drewN B3.out.below nq⟩
              have B4 := Lib.hid hFd
              clear hFd B3
              generalize wr.drewN nq = wq at B4 ⊢
              go_wp2
              go_loopw [13, 14] (fun vz vc wc => ∃ (z c : Nat) (Y3 : List Nat), vz = .int .u64 (z : Int) ∧ vc = .int .i64 (c : Int) ∧ z < 4294967296 ∧ c ≤ n + 4 ∧ Fill w m w.heap.size gx gy X Y3 (val Y3) wc ∧ val Y3 + z * 65536 ^ c = T)
                (fun _ vc _ => n + 5 - (intOf vc).toNat)
              case atStart => exact ⟨z, a + b, Y2, rfl, by simp, hzl, by omega, B4.out, B0.out⟩
              case round =>
                obtain ⟨z, c, Y3, rfl, rfl, hzl, hcn, hF, hsum⟩ := hrel
                clear B4 B0
                by_cases hz : z = 0
                · subst hz
                  rw [Nat.zero_mul, Nat.add_zero] at hsum
                  have hFe : Fill w m w.heap.size gx gy X Y3 (val (X.take a) * m + X.getD a 0 * 65536 ^ a * val ((three m).take (b + 1))) wr := by
                    rw [← B2.out, ← hsum]; exact hF
                  have C1 := Lib.hid hFe
                  clear hFe hF hsum
                  go_wp2
                  refine ⟨⟨b + 1, Y3, by go_num, by omega, C1.out⟩, ?_⟩
                  simp [intOf]; omega
                · have hzp : 0 < z := by omega
                  have hcl := carry_room hsum B1.out hzp
                  have hlen := hF.len
                  rw [← A5.out] at hlen
                  have cy := hF.rowy.cell c (by rw [hlen]; exact hcl)
                  have fy := hF.rowy.frozen c
                  have hyl := limb_lt hF.limbs c
                  have hstep := carry_step Y3 c z (by rw [hlen]; exact hcl)
                  obtain ⟨y, hy⟩ : ∃ y, y = Y3.getD c 0 := ⟨_, rfl⟩
                  rw [← hy] at cy hyl hstep
                  obtain ⟨v, hv⟩ : ∃ v, v = z + y := ⟨_, rfl⟩
                  rw [← hv] at hstep
                  have hvl : v < 4295032832 := by omega
                  have hvI : (z : Int) + (y : Int) = (v : Int) := by omega
                  have hand : bits .and .u64 (v : Int) 65535 = ((v % 65536 : Nat) : Int) := by
                    have h := u64_and_nat v 65535 (by omega) (by decide)
                    rw [show v &&& 65535 = v % 65536 from Nat.and_two_pow_sub_one_eq_mod v 16] at h
                    exact h
                  obtain ⟨r, hr⟩ : ∃ r, r = v % 65536 := ⟨_, rfl⟩
                  obtain ⟨q, hq⟩ : ∃ q, q = v / 65536 := ⟨_, rfl⟩
                  have hqI : (v : Int) / 65536 = (q : Int) := by omega
                  rw [← hr] at hand hstep
                  rw [← hq, hsum] at hstep
                  have hFn := hF.put hxy hdy hgy c r (by omega)
                  have hql : q < 4294967296 := by omega
                  have hzI : (0 : Int) < (z : Int) := by omega
                  have C1 := Lib.hid hFn
                  have C2 := Lib.hid hstep
                  clear hFn hstep hF hsum hy hv hr hq hlen
                  go_wp2
                  refine ⟨⟨q, c + 1, _, rfl, by go_num, hql, by omega, C1.out, C2.out⟩, ?_⟩
                  simp [intOf]; omega
            · have hb : b = 3 := by omega
              have hFe : Fill w m w.heap.size gx gy X Y2 (val (X.take (a + 1)) * m) wr := by
                have h := hF
                rw [hb, show (three m).take 3 = three m from rfl, show val (three m) = m from val_three m, ← Nat.add_mul, ← val_take_succ X a (by rw [← A5.out]; exact hla)] at h
                exact h
              have hdb : decide ((b : Int) < 3) = false := by simp; omega
              have C1 := Lib.hid hFe
              clear hFe hF hb
              go_wp2
              refine ⟨⟨a + 1, Y2, by go_num, by omega, C1.out⟩, ?_⟩
              simp [intOf]; omega
        · have ha : a = n := by omega
          have hFe : Fill w m w.heap.size gx gy X Y (m ^ (i + 1)) wr := by
            have h := hF
            rw [ha, A5.out, List.take_length, A2.out, ← Nat.pow_succ] at h
            exact h
          have hda : decide ((a : Int) < (n : Int)) = false := by simp; omega
          have C1 := Lib.hid hFe
          clear hFe hF ha
          go_wp2
          have hyl := C1.out.len
          have hout : Outer w m k w.heap.size (.slice (some ⟨gy, 0, none⟩) (n + 4) (n + 4)) (.int .i64 ((i : Int) + 1)) wr :=
            ⟨i + 1, gy, Y, by rw [hyl, A5.out], by go_num, by omega, by omega, by rw [hyl, ← A5.out]; have := A3.out; omega, C1.out.limbs, C1.out.sum, C1.out.rowy, C1.out.rowd, hgy, C1.out.below⟩
          refine ⟨hout, ?_⟩
          simp [intOf]; omega
    · have hki : i = k := by omega
      have hkk := HK.out
      rw [hki] at hval hlen
      have h2k : 2 * k + 3 ≤ X.length := by omega
      have hx8 : X.length ≤ 11 := by omega
      obtain ⟨htop, hlow⟩ := val_drop X (2 * k) hlimb (by omega)
      rw [hval] at htop hlow
      have htl := top_small hm hkk
      rw [← htop] at htl
      have hP : p * 2 ^ (32 * k) = p * 65536 ^ (2 * k) := by
        rw [show (65536 : Nat) = 2 ^ 16 from rfl, ← Nat.pow_mul, show 16 * (2 * k) = 32 * k by omega]
      have htest := below_test (m ^ k) p (2 * k)
      rw [← htop, ← hlow, ← hP] at htest
      have hdk : decide ((i : Int) < (k : Int)) = false := by simp; omega
      obtain ⟨n, hn⟩ : ∃ n, n = X.length := ⟨_, rfl⟩
      rw [← hn] at h2k hx8 ⊢
      have cells : ∀ t, t < n → wr.cell? ⟨gx, t, none⟩ = some (.int .u64 ((X.getD t 0 : Nat) : Int)) := fun t ht => hrx.cell t (by rw [← hn]; exact ht)
      have hdl := fun t (ht : 2 * k ≤ t) => (show val (X.drop t) ≤ val (X.drop (2 * k)) by have h := drop_le X (2 * k) (t - 2 * k); rwa [show 2 * k + (t - 2 * k) = t by omega] at h)
      have S1 := Lib.hid hlimb
      have S2 := Lib.hid hbel
      have S3 := Lib.hid cells
      have S4 := Lib.hid htl
      have S5 := Lib.hid htest
      have S6 := Lib.hid hn
      have S7 := Lib.hid hdl
      clear hlimb hbel cells htl htest hn hdl hP htop hlow hval hrx hrd hki hkk hlen
      go_wp2
      go_loop [15, 17] (fun vw va => ∃ t : Nat, 2 * k ≤ t ∧ t ≤ n ∧ va = .int .i64 ((t : Int) - 1) ∧ vw = .int .u64 ((val (X.drop t) : Nat) : Int))
        (fun _ va => (intOf va + 1).toNat)
      case atStart => exact ⟨n, by omega, Nat.le_refl _, rfl, by rw [S6.out, List.drop_length]; rfl⟩
      case round =>
        obtain ⟨t, ht2, htn, rfl, rfl⟩ := hrel
        by_cases htt : 2 * k < t
        · obtain ⟨s, rfl⟩ : ∃ s, t = s + 1 := ⟨t - 1, by omega⟩
          have cx := S3.out s (by omega)
          have hstep := drop_step (X := X) (s := s) (by rw [← S6.out]; omega)
          have hWl := S7.out (s + 1) ht2
          have hxl := limb_lt S1.out s
          obtain ⟨W, hW⟩ : ∃ W, W = val (X.drop (s + 1)) := ⟨_, rfl⟩
          obtain ⟨x, hx⟩ : ∃ x, x = X.getD s 0 := ⟨_, rfl⟩
          rw [← hW] at hstep hWl ⊢
          rw [← hx] at cx hstep hxl
          have hWs : W < 32768 := Nat.lt_of_le_of_lt hWl S4.out
          have hor := or_shift hWs hxl
          rw [← hstep] at hor
          obtain ⟨N, hN⟩ : ∃ N, N = val (X.drop s) := ⟨_, rfl⟩
          rw [← hN] at hor
          have hsI : ((s + 1 : Nat) : Int) - 1 = (s : Int) := by omega
          have hge : 2 * (k : Int) ≤ (s : Int) := by omega
          have T1 := Lib.hid hN
          rw [hsI]
          clear hstep hWl hW hx hN hsI
          go_wp2
          refine ⟨⟨s, by omega, by omega, rfl, by rw [T1.out]⟩, ?_⟩
          simp [intOf]
        · have hte : t = 2 * k := by omega
          have hlt2 : decide (2 * (k : Int) ≤ (t : Int) - 1) = false := by simp; omega
          have hW := S4.out
          rw [← hte] at hW
          obtain ⟨W, hWe⟩ : ∃ W, W = val (X.drop t) := ⟨_, rfl⟩
          rw [← hWe] at hW ⊢
          have T1 := Lib.hid hWe
          have T2 := Lib.hid hte
          clear hWe hte
          go_wp2
          go_loop [16, 18] (fun vb va => ∃ (a : Nat) (b : Bool), a ≤ 2 * k ∧ va = .int .i64 (a : Int) ∧ vb = .bool b ∧ (b = true ↔ val (X.take a) ≠ 0))
            (fun _ va => 2 * k - (intOf va).toNat)
          case atStart => exact ⟨0, false, by omega, rfl, rfl, by simp [val]⟩
          case round =>
            obtain ⟨a, b, ha2, rfl, rfl, hb⟩ := hrel
            by_cases hla : a < 2 * k
            · have cx := S3.out a (by omega)
              have hts := val_take_succ X a (by rw [← S6.out]; omega)
              obtain ⟨x, hx⟩ : ∃ x, x = X.getD a 0 := ⟨_, rfl⟩
              rw [← hx] at cx hts
              have hpp : 0 < 65536 ^ a := Nat.pow_pos (by decide)
              have hl1 : (a : Int) < 2 * (k : Int) := by omega
              have hl2 : (a : Int) < (n : Int) := by omega
              have hxp : x * 65536 ^ a = 0 ↔ x = 0 := by
                rw [Nat.mul_eq_zero]
                exact ⟨fun h => h.resolve_right (by omega), fun h => .inl h⟩
              cases b with
              | true =>
                have hb1 := hb.1 rfl
                have hbn : val (X.take (a + 1)) ≠ 0 := by omega
                have U1 := Lib.hid hbn
                clear hb hb1 hbn hts hxp hpp hx
                go_wp2
                refine ⟨⟨a + 1, true, by omega, by go_num, rfl, by simp [U1.out]⟩, ?_⟩
                simp [intOf]; omega
              | false =>
                have hb0 : val (X.take a) = 0 := by
                  rcases Nat.eq_zero_or_pos (val (X.take a)) with h | h
                  · exact h
                  · exact absurd (hb.2 (by omega)) (by simp)
                by_cases hx0 : x = 0
                · have hbn : val (X.take (a + 1)) = 0 := by rw [hts, hb0, hx0]; simp
                  subst hx0
                  have U1 := Lib.hid hbn
                  clear hb hbn hts hxp hpp hx hb0
                  go_wp2
                  refine ⟨⟨a + 1, false, by omega, by go_num, rfl, by simp [U1.out]⟩, ?_⟩
                  simp [intOf]; omega
                · have hbn : val (X.take (a + 1)) ≠ 0 := by
                    intro h
                    exact hx0 (hxp.1 (by omega))
                  have hxI : (0 : Int) < (x : Int) := by omega
                  have U1 := Lib.hid hbn
                  clear hb hbn hts hxp hpp hx hb0
                  go_wp2
                  refine ⟨⟨a + 1, true, by omega, by go_num, by rw [decide_eq_true (show 0 < x by omega)], by simp [U1.out]⟩, ?_⟩
                  simp [intOf]; omega
            · have hae : a = 2 * k := by omega
              have hla2 : decide ((a : Int) < 2 * (k : Int)) = false := by simp; omega
              have hT := S5.out
              rw [← T2.out, ← T1.out, T2.out, ← hae] at hT
              have U1 := Lib.hid hT
              have U2 := Lib.hid hb
              clear hT hb hae
              by_cases c1 : W < p
              · have U3 := Lib.hid (decide_eq_true (U1.out.1 (.inl c1)))
                go_wp2
                go_ret
                exact ⟨by rw [U3.out]; rfl, S2.out⟩
              · by_cases c2 : W = p
                · cases b with
                  | true =>
                    have hne : ¬ (m ^ k ≤ p * 2 ^ (32 * k)) := by
                      intro h
                      rcases U1.out.2 h with h1 | ⟨_, h2⟩
                      · exact c1 h1
                      · exact (U2.out.1 rfl) h2
                    have U3 := Lib.hid (decide_eq_false hne)
                    clear hne
                    subst c2
                    go_wp2
                    go_ret
                    exact ⟨by rw [U3.out]; rfl, S2.out⟩
                  | false =>
                    have hz : val (X.take a) = 0 := by
                      rcases Nat.eq_zero_or_pos (val (X.take a)) with h | h
                      · exact h
                      · exact absurd (U2.out.2 (by omega)) (by simp)
                    have U3 := Lib.hid (decide_eq_true (U1.out.1 (.inr ⟨c2, hz⟩)))
                    clear hz
                    subst c2
                    go_wp2
                    go_ret
                    exact ⟨by rw [U3.out]; rfl, S2.out⟩
                · have hne : ¬ (m ^ k ≤ p * 2 ^ (32 * k)) := by
                    intro h
                    rcases U1.out.2 h with h1 | ⟨h1, _⟩
                    · exact c1 h1
                    · exact c2 h1
                  have U3 := Lib.hid (decide_eq_false hne)
                  clear hne
                  have c2' : ((W : Int) == (p : Int)) = false := by simp; omega
                  go_wp2
                  go_ret
                  exact ⟨by rw [U3.out]; rfl, S2.out⟩

/-- The document's own roots. -/
theorem rooted_does (p k : Nat) (w : World) (hk : k = 2 ∨ k = 3) (hp : p < 65536) :
    Calls Tryd.prog 14 #[.int .u64 p, .int .i64 k] w fun e w' => e = .returned (.int .u32 (rootOf p k)) ∧ Below w.heap.size w w' := rooted_any p k w (power_any k p hk hp) hp (by omega)
end Go.Proofs.YtopchpaiehoilaaDoor
