/- BaseB12: several of our texts in one: SgM Isq ARow. -/
import Derived.Test.YtckfklpgnneodaaBaseB03
import Derived.Test.YtckfklpgnneodaaRwE
namespace Go.Proofs.Ytckfklpgnneodaa
theorem mm4 (a b c d : Int) : a * b * (c * d) = a * c * (b * d) := by rw [Int.mul_assoc, Int.mul_left_comm b c d, ← Int.mul_assoc]
theorem sq_neg (a : Int) : (-a) * (-a) = a * a := Int.neg_mul_neg a a
theorem sq_nn (a : Int) : 0 ≤ a * a := by
  rcases Int.le_total 0 a with h | h
  · exact Int.mul_nonneg h h
  · rw [← sq_neg]; exact Int.mul_nonneg (by omega) (by omega)
theorem sq_le {a b : Int} (ha : 0 ≤ a) (h : a ≤ b) : a * a ≤ b * b := Int.mul_le_mul h h ha (Int.le_trans ha h)
theorem sq_lt {a b : Int} (ha : 0 ≤ a) (h : a < b) : a * a < b * b :=
  Int.lt_of_le_of_lt (Int.mul_le_mul_of_nonneg_left (Int.le_of_lt h) ha) (Int.mul_lt_mul_of_pos_right h (by omega))
theorem le_of_sq {a b : Int} (hb : 0 ≤ b) (h : a * a ≤ b * b) : a ≤ b := by
  rcases (show b < a ∨ a ≤ b by omega) with k | k
  · have := sq_lt hb k; omega
  · exact k
/-- u + v times the root of 2 is positive. -/
def Pos (u v : Int) : Prop := (0 ≤ u ∧ 0 ≤ v ∧ (u ≠ 0 ∨ v ≠ 0)) ∨ (0 < u ∧ v < 0 ∧ 2 * (v * v) < u * u) ∨ (u < 0 ∧ 0 < v ∧ u * u < 2 * (v * v))
/-- Products of roots: x below y root 2 and z below w root 2. -/
theorem cross_le {x y z w : Int} (hy : 0 ≤ y) (_ : 0 ≤ z) (hw : 0 ≤ w) (h1 : x * x ≤ 2 * (y * y)) (h2 : z * z ≤ 2 * (w * w)) : x * z ≤ 2 * (y * w) := by
  have hyw := Int.mul_nonneg hy hw
  apply le_of_sq (by omega)
  have e1 : x * z * (x * z) = (x * x) * (z * z) := mm4 x z x z
  have e2 : 2 * (y * w) * (2 * (y * w)) = (2 * (y * y)) * (2 * (w * w)) := by
    rw [mm4 2 (y * w) 2 (y * w), mm4 y w y w, mm4 2 (y * y) 2 (w * w)]
  rw [e1, e2]
  exact Int.mul_le_mul h1 h2 (sq_nn z) (by have := sq_nn y; omega)
theorem sum_sq (x z : Int) : (x + z) * (x + z) = x * x + 2 * (x * z) + z * z := by
  rw [Int.add_mul, Int.mul_add, Int.mul_add, Int.mul_comm z x]; omega
theorem below_sum {x y z w : Int} (hy : 0 ≤ y) (hz : 0 ≤ z) (hw : 0 ≤ w) (h1 : x * x ≤ 2 * (y * y)) (h2 : z * z < 2 * (w * w)) : (x + z) * (x + z) < 2 * ((y + w) * (y + w)) := by
  have := cross_le hy hz hw h1 (Int.le_of_lt h2)
  rw [sum_sq, sum_sq]; omega
theorem cross_ge {x y z w : Int} (hx : 0 ≤ x) (_ : 0 ≤ y) (hz : 0 ≤ z) (_ : 0 ≤ w) (h1 : 2 * (y * y) ≤ x * x) (h2 : 2 * (w * w) ≤ z * z) : 2 * (y * w) ≤ x * z := by
  apply le_of_sq (Int.mul_nonneg hx hz)
  have e1 : x * z * (x * z) = (x * x) * (z * z) := mm4 x z x z
  have e2 : 2 * (y * w) * (2 * (y * w)) = (2 * (y * y)) * (2 * (w * w)) := by
    rw [mm4 2 (y * w) 2 (y * w), mm4 y w y w, mm4 2 (y * y) 2 (w * w)]
  rw [e1, e2]
  exact Int.mul_le_mul h1 h2 (by have := sq_nn w; omega) (sq_nn x)
theorem above_sum {x y z w : Int} (hx : 0 ≤ x) (hy : 0 ≤ y) (hz : 0 ≤ z) (hw : 0 ≤ w) (h1 : 2 * (y * y) ≤ x * x) (h2 : 2 * (w * w) < z * z) : 2 * ((y + w) * (y + w)) < (x + z) * (x + z) := by
  have := cross_ge hx hy hz hw h1 (Int.le_of_lt h2)
  rw [sum_sq, sum_sq]; omega
theorem Pos.mix {p q r s : Int} (hp : 0 < p) (hq : 0 < q) (hr : 0 < r) (hs : 0 < s) (h1 : 2 * (q * q) < p * p) (h2 : r * r < 2 * (s * s)) : Pos (p - r) (s - q) := by
  have hd1 : (r - p) * (r - p) = (p - r) * (p - r) := by rw [← sq_neg]; congr 1 <;> omega
  have hd2 : (q - s) * (q - s) = (s - q) * (s - q) := by rw [← sq_neg]; congr 1 <;> omega
  rcases (show p - r ≤ 0 ∧ s - q ≤ 0 ∨ (0 ≤ p - r ∧ 0 ≤ s - q ∧ (p - r ≠ 0 ∨ s - q ≠ 0)) ∨ (0 < p - r ∧ s - q < 0) ∨ (p - r < 0 ∧ 0 < s - q) by omega) with ⟨a, b⟩ | h | ⟨a, b⟩ | ⟨a, b⟩
  · exfalso
    have e1 := sq_le (Int.le_of_lt hp) (show p ≤ r by omega)
    have e2 := sq_le (Int.le_of_lt hs) (show s ≤ q by omega)
    omega
  · exact .inl h
  · refine .inr (.inl ⟨a, b, ?_⟩)
    rcases (show 2 * ((s - q) * (s - q)) < (p - r) * (p - r) ∨ (p - r) * (p - r) ≤ 2 * ((s - q) * (s - q)) by omega) with k | k
    · exact k
    · exfalso
      have := below_sum (x := p - r) (y := q - s) (z := r) (w := s) (by omega) (by omega) (by omega) (by rw [hd2]; exact k) h2
      rw [show p - r + r = p by omega, show q - s + s = q by omega] at this
      omega
  · refine .inr (.inr ⟨a, b, ?_⟩)
    rcases (show (p - r) * (p - r) < 2 * ((s - q) * (s - q)) ∨ 2 * ((s - q) * (s - q)) ≤ (p - r) * (p - r) by omega) with k | k
    · exact k
    · exfalso
      have := above_sum (x := r - p) (y := s - q) (z := p) (w := q) (by omega) (by omega) (by omega) (by omega) (by rw [hd1]; exact k) h1
      rw [show r - p + p = r by omega, show s - q + q = s by omega] at this
      omega
/-- The sum of positive numbers is positive. -/
theorem Pos.add {u v x y : Int} (h : Pos u v) (k : Pos x y) : Pos (u + x) (v + y) := by
  rcases h with ⟨h1, h2, h3⟩ | ⟨h1, h2, h3⟩ | ⟨h1, h2, h3⟩
  · rcases k with ⟨k1, k2, k3⟩ | ⟨k1, k2, k3⟩ | ⟨k1, k2, k3⟩
    · exact .inl (by omega)
    · by_cases hv : 0 ≤ v + y
      · exact .inl (by omega)
      · refine .inr (.inl ⟨by omega, by omega, ?_⟩)
        have e1 := sq_le (a := -(v + y)) (b := -y) (by omega) (by omega)
        have e2 := sq_le (a := x) (b := u + x) (by omega) (by omega)
        rw [sq_neg, sq_neg] at e1
        omega
    · by_cases hv : 0 ≤ u + x
      · exact .inl (by omega)
      · refine .inr (.inr ⟨by omega, by omega, ?_⟩)
        have e1 := sq_le (a := -(u + x)) (b := -x) (by omega) (by omega)
        have e2 := sq_le (a := y) (b := v + y) (by omega) (by omega)
        rw [sq_neg, sq_neg] at e1
        omega
  · rcases k with ⟨k1, k2, k3⟩ | ⟨k1, k2, k3⟩ | ⟨k1, k2, k3⟩
    · by_cases hv : 0 ≤ v + y
      · exact .inl (by omega)
      · refine .inr (.inl ⟨by omega, by omega, ?_⟩)
        have e1 := sq_le (a := -(v + y)) (b := -v) (by omega) (by omega)
        have e2 := sq_le (a := u) (b := u + x) (by omega) (by omega)
        rw [sq_neg, sq_neg] at e1
        omega
    · refine .inr (.inl ⟨by omega, by omega, ?_⟩)
      have := above_sum (x := u) (y := -v) (z := x) (w := -y) (by omega) (by omega) (by omega) (by omega) (by rw [sq_neg]; omega) (by rw [sq_neg]; omega)
      rw [show -v + -y = -(v + y) by omega, sq_neg] at this
      exact this
    · have := Pos.mix (p := u) (q := -v) (r := -x) (s := y) h1 (by omega) (by omega) k2 (by rw [sq_neg]; exact h3) (by rw [sq_neg]; exact k3)
      rw [show u - -x = u + x by omega, show y - -v = v + y by omega] at this
      exact this
  · rcases k with ⟨k1, k2, k3⟩ | ⟨k1, k2, k3⟩ | ⟨k1, k2, k3⟩
    · by_cases hv : 0 ≤ u + x
      · exact .inl (by omega)
      · refine .inr (.inr ⟨by omega, by omega, ?_⟩)
        have e1 := sq_le (a := -(u + x)) (b := -u) (by omega) (by omega)
        have e2 := sq_le (a := v) (b := v + y) (by omega) (by omega)
        rw [sq_neg, sq_neg] at e1
        omega
    · have := Pos.mix (p := x) (q := -y) (r := -u) (s := v) k1 (by omega) (by omega) h2 (by rw [sq_neg]; exact k3) (by rw [sq_neg]; exact h3)
      rw [show x - -u = u + x by omega, show v - -y = v + y by omega] at this
      exact this
    · refine .inr (.inr ⟨by omega, by omega, ?_⟩)
      have := below_sum (x := -u) (y := v) (z := -x) (w := y) (by omega) (by omega) (by omega) (by rw [sq_neg]; omega) (by rw [sq_neg]; exact k3)
      rw [show -u + -x = -(u + x) by omega, sq_neg] at this
      exact this
end Go.Proofs.Ytckfklpgnneodaa
namespace Go.Proofs.Ytckfklpgnneodaa
open Go.RowKit
attribute [local irreducible] World.cell?
set_option maxRecDepth 100000 in
set_option maxHeartbeats 400000 in
theorem iisq_yes (n : Int) (w : World) (h : 1 ≤ n ∧ n ≤ 4) :
    Calls Try.prog 68 #[.int .i64 n] w fun e w' => e = .returned (.bool true) ∧ w = w' := by
  obtain ⟨h1, h2⟩ := h
  go_enter Try.func68, Try.ntmps68
  go_wp2_with fail
  go_ret
  exact ⟨rfl, rfl⟩
set_option maxRecDepth 100000 in
set_option maxHeartbeats 400000 in
theorem iisq_no (n : Int) (w : World) (h : ¬ (1 ≤ n ∧ n ≤ 4)) (_ : -9223372036854775808 ≤ n) (_ : n ≤ 9223372036854775807) :
    Calls Try.prog 68 #[.int .i64 n] w fun e w' => e = .returned (.bool false) ∧ w = w' := by
  by_cases h1 : n < 1
  · clear h
    go_enter Try.func68, Try.ntmps68
    go_wp2_with fail
    go_ret
    exact ⟨rfl, rfl⟩
  · have h4 : 4 < n := by omega
    clear h
    go_enter Try.func68, Try.ntmps68
    go_wp2_with fail
    go_ret
    exact ⟨by first | rfl | (simp; omega), rfl⟩
end Go.Proofs.Ytckfklpgnneodaa
namespace Go.Proofs.Ytckfklpgnneodaa
open Go.RowKit
theorem flatI : ∀ l : List Int, intE.flat l = l.map (Value.int .i64)
  | [] => rfl
  | x :: l => by rw [Enc.flat_cons, flatI l]; rfl
/-- The block g, of whatever type, begins with these integers. -/
def AR (w : World) (g : Nat) (l : List Int) : Prop := ∃ (cs : Array Value) (ty : TypeId), w.heap[g]? = some (.cells cs ty (0, 0)) ∧ cs.toList.take l.length = l.map (Value.int .i64)
theorem AR.lt {w : World} {g : Nat} {l : List Int} (h : AR w g l) : g < w.heap.size := by obtain ⟨cs, ty, h1, _⟩ := h; exact lt_of_block h1
theorem AR.block {w w' : World} {g : Nat} {l : List Int} (h : AR w g l) (hb : w'.heap[g]? = w.heap[g]?) : AR w' g l := by obtain ⟨cs, ty, h1, h2⟩ := h; exact ⟨cs, ty, hb.trans h1, h2⟩
theorem AR.cell {w : World} {g : Nat} {l : List Int} (h : AR w g l) {j : Nat} {x : Int} (hx : l[j]? = some x) : w.cell? ⟨g, j, none⟩ = some (.int .i64 x) := by
  obtain ⟨cs, ty, h1, h2⟩ := h
  have hj : j < l.length := by
    rcases Nat.lt_or_ge j l.length with h' | h'
    · exact h'
    · rw [List.getElem?_eq_none h'] at hx; cases hx
  refine cell_at h1 _ _ ?_
  have e : (cs.toList.take l.length)[j]? = (l.map (Value.int .i64))[j]? := by rw [h2]
  rw [List.getElem?_take, if_pos hj, List.getElem?_map, hx] at e
  rw [← Array.getElem?_toList]; exact e
theorem AR.of_row {w : World} {g : Nat} {l : List Int} (h : intE.Row w g l) : AR w g l := by
  obtain ⟨cs, h1, h2⟩ := h
  refine ⟨cs, _, h1, ?_⟩
  rw [show l.length * intE.n = l.length from Nat.mul_one _] at h2
  rw [h2, flatI]
end Go.Proofs.Ytckfklpgnneodaa
