/- UBaseC08: several of our texts in one: UBaseB04 UBit UBn UARow. -/
import Derived.Test.YtlmiebeffdcfhaaGreatUBaseB03
import Derived.Test.YtlmiebeffdcfhaaGreatUBaseB22
namespace Go.Proofs.YtlmiebeffdcfhaaGreat
theorem rootN_comm (j k : Nat) (x : Zw) : rootN j (rootN k x) = rootN k (rootN j x) := by
  rw [← rootN_add, ← rootN_add, Nat.add_comm]
/-- n is multiplied by the root k times within the limit. -/
def upB : Nat → Zw → Bool
  | 0, _ => true
  | k + 1, n => mulB n rootE && upB k n.root
def upV (k : Nat) (n : Zw) : Zw := if upB k n then rootN k n else .zero
theorem upV_of {k : Nat} {n : Zw} (h : upB k n = true) : upV k n = rootN k n := if_pos h
/-- The larger exponent. -/
def topE (x y : Dw) : Int := if y.e < x.e then x.e else y.e
theorem topE_le (x y : Dw) : x.e ≤ topE x y ∧ y.e ≤ topE x y ∧ (topE x y = x.e ∨ topE x y = y.e) := by unfold topE; split <;> omega
/-- The two numerators over the larger exponent. -/
def numA (x y : Dw) : Zw := rootN (topE x y - x.e).toNat x.n
def numB (x y : Dw) : Zw := rootN (topE x y - y.e).toNat y.n
def dAddB (x y : Dw) : Bool := decide (x.ok ∧ y.ok) && upB (topE x y - x.e).toNat x.n && upB (topE x y - y.e).toNat y.n && addB (numA x y) (numB x y) && newB ((numA x y).add (numB x y)) (topE x y)
def dAddV (x y : Dw) : Dw := if dAddB x y then newV ((numA x y).add (numB x y)) (topE x y) else .zero
def dMulB (x y : Dw) : Bool := decide (x.ok ∧ y.ok) && mulB x.n y.n && newB (x.n.mul y.n) (x.e + y.e)
def dMulV (x y : Dw) : Dw := if dMulB x y then newV (x.n.mul y.n) (x.e + y.e) else .zero
def Dw.neg (x : Dw) : Dw := ⟨x.n.neg, x.e⟩
def Dw.conj (x : Dw) : Dw := ⟨x.n.conj, x.e⟩
def dNegV (x : Dw) : Dw := if x.ok then x.neg else .zero
def dConjV (x : Dw) : Dw := if x.ok then x.conj else .zero
def oneD : Dw := ⟨⟨1, 0, 0, 0⟩, 0⟩
theorem dAddB_iff {x y : Dw} : dAddB x y = true ↔ x.ok ∧ y.ok ∧ upB (topE x y - x.e).toNat x.n = true ∧ upB (topE x y - y.e).toNat y.n = true ∧ addB (numA x y) (numB x y) = true ∧ newB ((numA x y).add (numB x y)) (topE x y) = true := by
  simp [dAddB, and_assoc]
theorem dMulB_iff {x y : Dw} : dMulB x y = true ↔ x.ok ∧ y.ok ∧ mulB x.n y.n = true ∧ newB (x.n.mul y.n) (x.e + y.e) = true := by
  simp [dMulB, and_assoc]
theorem dAddV_of {x y : Dw} (h : dAddB x y = true) : dAddV x y = newV ((numA x y).add (numB x y)) (topE x y) := if_pos h
theorem dAddV_no {x y : Dw} (h : dAddB x y = false) : dAddV x y = .zero := if_neg (by simp [h])
theorem dMulV_of {x y : Dw} (h : dMulB x y = true) : dMulV x y = newV (x.n.mul y.n) (x.e + y.e) := if_pos h
theorem dMulV_no {x y : Dw} (h : dMulB x y = false) : dMulV x y = .zero := if_neg (by simp [h])
theorem dAddV_ok {x y : Dw} (h : dAddB x y = true) : (dAddV x y).ok := by rw [dAddV_of h]; exact newV_ok (dAddB_iff.1 h).2.2.2.2.2
theorem dMulV_ok {x y : Dw} (h : dMulB x y = true) : (dMulV x y).ok := by rw [dMulV_of h]; exact newV_ok (dMulB_iff.1 h).2.2.2
theorem dMulB_comm (x y : Dw) : dMulB y x = dMulB x y := by
  rw [Bool.eq_iff_iff, dMulB_iff, dMulB_iff, mul_comm' x.n y.n, mulB_comm x.n y.n, Int.add_comm y.e x.e]
  exact ⟨fun ⟨a, b, c⟩ => ⟨b, a, c⟩, fun ⟨a, b, c⟩ => ⟨b, a, c⟩⟩
theorem dMulV_comm (x y : Dw) : dMulV y x = dMulV x y := by
  unfold dMulV; rw [dMulB_comm x y, mul_comm' x.n y.n, Int.add_comm y.e x.e]
/-- s has the value of x + y; p that of x * y. -/
def Adds (s x y : Dw) : Prop := rootN (x.e.toNat + y.e.toNat) s.n = rootN s.e.toNat ((rootN y.e.toNat x.n).add (rootN x.e.toNat y.n))
def Muls (p x y : Dw) : Prop := rootN (x.e.toNat + y.e.toNat) p.n = rootN p.e.toNat (x.n.mul y.n)
theorem adds_of {x y : Dw} (h : dAddB x y = true) : Adds (dAddV x y) x y := by
  obtain ⟨hx, hy, _, _, _, hn⟩ := dAddB_iff.1 h
  have hs := newV_same hn
  rw [← dAddV_of h] at hs
  unfold Same at hs
  have hx0 := hx.2.1
  have hy0 := hy.2.1
  have ht := topE_le x y
  generalize hT : topE x y = T at *
  have hA : numA x y = rootN (T.toNat - x.e.toNat) x.n := by unfold numA; rw [hT]; congr 1; omega
  have hB : numB x y = rootN (T.toNat - y.e.toNat) y.n := by unfold numB; rw [hT]; congr 1; omega
  rw [hA, hB] at hs
  unfold Adds
  apply rootN_inj (k := T.toNat)
  rw [rootN_comm, hs, rootN_comm (x.e.toNat + y.e.toNat), rootN_comm T.toNat]
  congr 1
  rw [rootN_addZ, rootN_addZ, ← rootN_add, ← rootN_add, ← rootN_add, ← rootN_add]
  congr 1 <;> congr 1 <;> omega
theorem muls_of {x y : Dw} (h : dMulB x y = true) : Muls (dMulV x y) x y := by
  obtain ⟨hx, hy, _, hn⟩ := dMulB_iff.1 h
  have hs := newV_same hn
  rw [← dMulV_of h] at hs
  unfold Same at hs
  have hx0 := hx.2.1
  have hy0 := hy.2.1
  unfold Muls
  rw [show x.e.toNat + y.e.toNat = (x.e + y.e).toNat by omega, hs]
theorem divB_conj (n : Zw) : divB n.conj = divB n := by
  rw [Bool.eq_iff_iff, divB_iff, divB_iff, conj_ok, root_conj]
  simp only [Zw.conj, Zw.even]
  refine and_congr_right fun _ => ?_
  omega
theorem dconj_ok {x : Dw} : x.conj.ok ↔ x.ok := by unfold Dw.ok Dw.conj; simp only [conj_ok, divB_conj]
theorem mul_one' (n : Zw) : n.mul ⟨1, 0, 0, 0⟩ = n := by
  cases n; simp [Zw.mul]
theorem oneD_ok : oneD.ok := by decide
theorem dmul_one {x : Dw} (h : x.ok) : dMulB x oneD = true ∧ dMulV x oneD = x := by
  have e : x.n.mul oneD.n = x.n := mul_one' x.n
  have e2 : x.e + oneD.e = x.e := Int.add_zero _
  have hb : dMulB x oneD = true := dMulB_iff.2 ⟨h, oneD_ok, mulB_iff.2 ⟨h.1, by decide, by rw [e]; exact h.1⟩, by rw [e, e2]; exact (newV_self h).1⟩
  exact ⟨hb, by rw [dMulV_of hb, e, e2]; exact (newV_self h).2⟩
end Go.Proofs.YtlmiebeffdcfhaaGreat
namespace Go.Proofs.YtlmiebeffdcfhaaGreat
theorem mm4 (a b c d : Int) : a * b * (c * d) = a * c * (b * d) := by rw [Int.mul_assoc, Int.mul_left_comm b c d, ← Int.mul_assoc]
theorem sq_neg (a : Int) : (-a) * (-a) = a * a := Int.neg_mul_neg a a
theorem sq_nn (a : Int) : 0 ≤ a * a := by
  rcases Int.le_total 0 a with h | h
  · exact Int.mul_nonneg h h
  · rw [← sq_neg]; exact Int.mul_nonneg (by omega) (by omega)
theorem sq_le {a b : Int} (ha : 0 ≤ a) (h : a ≤ b) : a * a ≤ b * b := Int.mul_le_mul h h ha (Int.le_trans ha h)
theorem sq_lt {a b : Int} (ha : 0 ≤ a) (h : a < b) : a * a < b * b :=
  Int.lt_of_le_of_lt (Int.mul_le_mul_of_nonneg_left (Int.le_of_lt h) ha) (Int.mul_lt_mul_of_pos_right h (by omega))
theorem le_of_sq {a b : Int} (hb : 0 ≤ b) (h : a * a ≤ b * b) : a ≤ b := by
  rcases (show b < a ∨ a ≤ b by omega) with k | k
  · have := sq_lt hb k; omega
  · exact k
/-- u + v times the root of 2 is positive. -/
def Pos (u v : Int) : Prop := (0 ≤ u ∧ 0 ≤ v ∧ (u ≠ 0 ∨ v ≠ 0)) ∨ (0 < u ∧ v < 0 ∧ 2 * (v * v) < u * u) ∨ (u < 0 ∧ 0 < v ∧ u * u < 2 * (v * v))
/-- Products of roots: x below y root 2 and z below w root 2. -/
theorem cross_le {x y z w : Int} (hy : 0 ≤ y) (_ : 0 ≤ z) (hw : 0 ≤ w) (h1 : x * x ≤ 2 * (y * y)) (h2 : z * z ≤ 2 * (w * w)) : x * z ≤ 2 * (y * w) := by
  have hyw := Int.mul_nonneg hy hw
  apply le_of_sq (by omega)
  have e1 : x * z * (x * z) = (x * x) * (z * z) := mm4 x z x z
  have e2 : 2 * (y * w) * (2 * (y * w)) = (2 * (y * y)) * (2 * (w * w)) := by
    rw [mm4 2 (y * w) 2 (y * w), mm4 y w y w, mm4 2 (y * y) 2 (w * w)]
  rw [e1, e2]
  exact Int.mul_le_mul h1 h2 (sq_nn z) (by have := sq_nn y; omega)
theorem sum_sq (x z : Int) : (x + z) * (x + z) = x * x + 2 * (x * z) + z * z := by
  rw [Int.add_mul, Int.mul_add, Int.mul_add, Int.mul_comm z x]; omega
theorem below_sum {x y z w : Int} (hy : 0 ≤ y) (hz : 0 ≤ z) (hw : 0 ≤ w) (h1 : x * x ≤ 2 * (y * y)) (h2 : z * z < 2 * (w * w)) : (x + z) * (x + z) < 2 * ((y + w) * (y + w)) := by
  have := cross_le hy hz hw h1 (Int.le_of_lt h2)
  rw [sum_sq, sum_sq]; omega
theorem cross_ge {x y z w : Int} (hx : 0 ≤ x) (_ : 0 ≤ y) (hz : 0 ≤ z) (_ : 0 ≤ w) (h1 : 2 * (y * y) ≤ x * x) (h2 : 2 * (w * w) ≤ z * z) : 2 * (y * w) ≤ x * z := by
  apply le_of_sq (Int.mul_nonneg hx hz)
  have e1 : x * z * (x * z) = (x * x) * (z * z) := mm4 x z x z
  have e2 : 2 * (y * w) * (2 * (y * w)) = (2 * (y * y)) * (2 * (w * w)) := by
    rw [mm4 2 (y * w) 2 (y * w), mm4 y w y w, mm4 2 (y * y) 2 (w * w)]
  rw [e1, e2]
  exact Int.mul_le_mul h1 h2 (by have := sq_nn w; omega) (sq_nn x)
theorem above_sum {x y z w : Int} (hx : 0 ≤ x) (hy : 0 ≤ y) (hz : 0 ≤ z) (hw : 0 ≤ w) (h1 : 2 * (y * y) ≤ x * x) (h2 : 2 * (w * w) < z * z) : 2 * ((y + w) * (y + w)) < (x + z) * (x + z) := by
  have := cross_ge hx hy hz hw h1 (Int.le_of_lt h2)
  rw [sum_sq, sum_sq]; omega
theorem Pos.mix {p q r s : Int} (hp : 0 < p) (hq : 0 < q) (hr : 0 < r) (hs : 0 < s) (h1 : 2 * (q * q) < p * p) (h2 : r * r < 2 * (s * s)) : Pos (p - r) (s - q) := by
  have hd1 : (r - p) * (r - p) = (p - r) * (p - r) := by rw [← sq_neg]; congr 1 <;> omega
  have hd2 : (q - s) * (q - s) = (s - q) * (s - q) := by rw [← sq_neg]; congr 1 <;> omega
  rcases (show p - r ≤ 0 ∧ s - q ≤ 0 ∨ (0 ≤ p - r ∧ 0 ≤ s - q ∧ (p - r ≠ 0 ∨ s - q ≠ 0)) ∨ (0 < p - r ∧ s - q < 0) ∨ (p - r < 0 ∧ 0 < s - q) by omega) with ⟨a, b⟩ | h | ⟨a, b⟩ | ⟨a, b⟩
  · exfalso
    have e1 := sq_le (Int.le_of_lt hp) (show p ≤ r by omega)
    have e2 := sq_le (Int.le_of_lt hs) (show s ≤ q by omega)
    omega
  · exact .inl h
  · refine .inr (.inl ⟨a, b, ?_⟩)
    rcases (show 2 * ((s - q) * (s - q)) < (p - r) * (p - r) ∨ (p - r) * (p - r) ≤ 2 * ((s - q) * (s - q)) by omega) with k | k
    · exact k
    · exfalso
      have := below_sum (x := p - r) (y := q - s) (z := r) (w := s) (by omega) (by omega) (by omega) (by rw [hd2]; exact k) h2
      rw [show p - r + r = p by omega, show q - s + s = q by omega] at this
      omega
  · refine .inr (.inr ⟨a, b, ?_⟩)
    rcases (show (p - r) * (p - r) < 2 * ((s - q) * (s - q)) ∨ 2 * ((s - q) * (s - q)) ≤ (p - r) * (p - r) by omega) with k | k
    · exact k
    · exfalso
      have := above_sum (x := r - p) (y := s - q) (z := p) (w := q) (by omega) (by omega) (by omega) (by omega) (by rw [hd1]; exact k) h1
      rw [show r - p + p = r by omega, show s - q + q = s by omega] at this
      omega
/-- The sum of positive numbers is positive. -/
theorem Pos.add {u v x y : Int} (h : Pos u v) (k : Pos x y) : Pos (u + x) (v + y) := by
  rcases h with ⟨h1, h2, h3⟩ | ⟨h1, h2, h3⟩ | ⟨h1, h2, h3⟩
  · rcases k with ⟨k1, k2, k3⟩ | ⟨k1, k2, k3⟩ | ⟨k1, k2, k3⟩
    · exact .inl (by omega)
    · by_cases hv : 0 ≤ v + y
      · exact .inl (by omega)
      · refine .inr (.inl ⟨by omega, by omega, ?_⟩)
        have e1 := sq_le (a := -(v + y)) (b := -y) (by omega) (by omega)
        have e2 := sq_le (a := x) (b := u + x) (by omega) (by omega)
        rw [sq_neg, sq_neg] at e1
        omega
    · by_cases hv : 0 ≤ u + x
      · exact .inl (by omega)
      · refine .inr (.inr ⟨by omega, by omega, ?_⟩)
        have e1 := sq_le (a := -(u + x)) (b := -x) (by omega) (by omega)
        have e2 := sq_le (a := y) (b := v + y) (by omega) (by omega)
        rw [sq_neg, sq_neg] at e1
        omega
  · rcases k with ⟨k1, k2, k3⟩ | ⟨k1, k2, k3⟩ | ⟨k1, k2, k3⟩
    · by_cases hv : 0 ≤ v + y
      · exact .inl (by omega)
      · refine .inr (.inl ⟨by omega, by omega, ?_⟩)
        have e1 := sq_le (a := -(v + y)) (b := -v) (by omega) (by omega)
        have e2 := sq_le (a := u) (b := u + x) (by omega) (by omega)
        rw [sq_neg, sq_neg] at e1
        omega
    · refine .inr (.inl ⟨by omega, by omega, ?_⟩)
      have := above_sum (x := u) (y := -v) (z := x) (w := -y) (by omega) (by omega) (by omega) (by omega) (by rw [sq_neg]; omega) (by rw [sq_neg]; omega)
      rw [show -v + -y = -(v + y) by omega, sq_neg] at this
      exact this
    · have := Pos.mix (p := u) (q := -v) (r := -x) (s := y) h1 (by omega) (by omega) k2 (by rw [sq_neg]; exact h3) (by rw [sq_neg]; exact k3)
      rw [show u - -x = u + x by omega, show y - -v = v + y by omega] at this
      exact this
  · rcases k with ⟨k1, k2, k3⟩ | ⟨k1, k2, k3⟩ | ⟨k1, k2, k3⟩
    · by_cases hv : 0 ≤ u + x
      · exact .inl (by omega)
      · refine .inr (.inr ⟨by omega, by omega, ?_⟩)
        have e1 := sq_le (a := -(u + x)) (b := -u) (by omega) (by omega)
        have e2 := sq_le (a := v) (b := v + y) (by omega) (by omega)
        rw [sq_neg, sq_neg] at e1
        omega
    · have := Pos.mix (p := x) (q := -y) (r := -u) (s := v) k1 (by omega) (by omega) h2 (by rw [sq_neg]; exact k3) (by rw [sq_neg]; exact h3)
      rw [show x - -u = u + x by omega, show v - -y = v + y by omega] at this
      exact this
    · refine .inr (.inr ⟨by omega, by omega, ?_⟩)
      have := below_sum (x := -u) (y := v) (z := -x) (w := y) (by omega) (by omega) (by omega) (by rw [sq_neg]; omega) (by rw [sq_neg]; exact k3)
      rw [show -u + -x = -(u + x) by omega, sq_neg] at this
      exact this
end Go.Proofs.YtlmiebeffdcfhaaGreat
namespace Go.Proofs.YtlmiebeffdcfhaaGreat
open Go.RowKit
attribute [local irreducible] World.cell?
set_option maxRecDepth 100000 in
set_option maxHeartbeats 800000 in
theorem ibitOf (i q : Nat) (w : World) (hq : q < 63) :
    Calls Tryz.prog 42 #[.int .i64 (i : Int), .int .i64 (q : Int)] w fun e w' => e = .returned (.int .i64 (bits .and .i64 ((i : Int) / 2 ^ q) 1)) ∧ w = w' := by
  go_enter Tryz.func42, Tryz.ntmps42
  go_wp2_with fail
  go_ret
  exact ⟨rfl, rfl⟩
end Go.Proofs.YtlmiebeffdcfhaaGreat
namespace Go.Proofs.YtlmiebeffdcfhaaGreat
def bitN (i q : Nat) : Bool := (i >>> q) % 2 == 1
theorem bit_all : ∀ i : Fin 16, ∀ q : Fin 4, (bits .and .i64 (((i.val : Nat) : Int) / 2 ^ q.val) 1 == 1) = bitN i.val q.val := by decide +kernel
theorem bit_bits {i q : Nat} (hi : i < 16) (hq : q < 4) : (bits .and .i64 ((i : Int) / 2 ^ q) 1 == 1) = bitN i q := bit_all ⟨i, hi⟩ ⟨q, hq⟩
end Go.Proofs.YtlmiebeffdcfhaaGreat
namespace Go.Proofs.YtlmiebeffdcfhaaGreat
open Go.RowKit
/-- The block g, of whatever type, begins with these integers. -/
def AR (w : World) (g : Nat) (l : List Int) : Prop := ∃ (cs : Array Value) (ty : TypeId), w.heap[g]? = some (.cells cs ty (0, 0)) ∧ cs.toList.take l.length = l.map (Value.int .i64)
theorem AR.lt {w : World} {g : Nat} {l : List Int} (h : AR w g l) : g < w.heap.size := by obtain ⟨cs, ty, h1, _⟩ := h; exact lt_of_block h1
theorem AR.block {w w' : World} {g : Nat} {l : List Int} (h : AR w g l) (hb : w'.heap[g]? = w.heap[g]?) : AR w' g l := by obtain ⟨cs, ty, h1, h2⟩ := h; exact ⟨cs, ty, hb.trans h1, h2⟩
theorem AR.cell {w : World} {g : Nat} {l : List Int} (h : AR w g l) {j : Nat} {x : Int} (hx : l[j]? = some x) : w.cell? ⟨g, j, none⟩ = some (.int .i64 x) := by
  obtain ⟨cs, ty, h1, h2⟩ := h
  have hj : j < l.length := by
    rcases Nat.lt_or_ge j l.length with h' | h'
    · exact h'
    · rw [List.getElem?_eq_none h'] at hx; cases hx
  refine cell_at h1 _ _ ?_
  have e : (cs.toList.take l.length)[j]? = (l.map (Value.int .i64))[j]? := by rw [h2]
  rw [List.getElem?_take, if_pos hj, List.getElem?_map, hx] at e
  rw [← Array.getElem?_toList]; exact e
end Go.Proofs.YtlmiebeffdcfhaaGreat
