/- BaseB04: several of our texts in one: DwM2 SgM. -/
import Derived.Test.YtlmiebeffdcfhaaBaseB03
namespace Go.Proofs.Ytlmiebeffdcfhaa
theorem rootN_comm (j k : Nat) (x : Zw) : rootN j (rootN k x) = rootN k (rootN j x) := by
  rw [← rootN_add, ← rootN_add, Nat.add_comm]
/-- n is multiplied by the root k times within the limit. -/
def upB : Nat → Zw → Bool
  | 0, _ => true
  | k + 1, n => mulB n rootE && upB k n.root
def upV (k : Nat) (n : Zw) : Zw := if upB k n then rootN k n else .zero
theorem upV_of {k : Nat} {n : Zw} (h : upB k n = true) : upV k n = rootN k n := if_pos h
/-- The larger exponent. -/
def topE (x y : Dw) : Int := if y.e < x.e then x.e else y.e
theorem topE_comm (x y : Dw) : topE y x = topE x y := by unfold topE; split <;> split <;> omega
theorem topE_le (x y : Dw) : x.e ≤ topE x y ∧ y.e ≤ topE x y ∧ (topE x y = x.e ∨ topE x y = y.e) := by unfold topE; split <;> omega
/-- The two numerators over the larger exponent. -/
def numA (x y : Dw) : Zw := rootN (topE x y - x.e).toNat x.n
def numB (x y : Dw) : Zw := rootN (topE x y - y.e).toNat y.n
def dAddB (x y : Dw) : Bool := decide (x.ok ∧ y.ok) && upB (topE x y - x.e).toNat x.n && upB (topE x y - y.e).toNat y.n && addB (numA x y) (numB x y) && newB ((numA x y).add (numB x y)) (topE x y)
def dAddV (x y : Dw) : Dw := if dAddB x y then newV ((numA x y).add (numB x y)) (topE x y) else .zero
def dMulB (x y : Dw) : Bool := decide (x.ok ∧ y.ok) && mulB x.n y.n && newB (x.n.mul y.n) (x.e + y.e)
def dMulV (x y : Dw) : Dw := if dMulB x y then newV (x.n.mul y.n) (x.e + y.e) else .zero
def Dw.neg (x : Dw) : Dw := ⟨x.n.neg, x.e⟩
def Dw.conj (x : Dw) : Dw := ⟨x.n.conj, x.e⟩
def dNegV (x : Dw) : Dw := if x.ok then x.neg else .zero
def dConjV (x : Dw) : Dw := if x.ok then x.conj else .zero
def oneD : Dw := ⟨⟨1, 0, 0, 0⟩, 0⟩
theorem dAddB_iff {x y : Dw} : dAddB x y = true ↔ x.ok ∧ y.ok ∧ upB (topE x y - x.e).toNat x.n = true ∧ upB (topE x y - y.e).toNat y.n = true ∧ addB (numA x y) (numB x y) = true ∧ newB ((numA x y).add (numB x y)) (topE x y) = true := by
  simp [dAddB, and_assoc]
theorem dMulB_iff {x y : Dw} : dMulB x y = true ↔ x.ok ∧ y.ok ∧ mulB x.n y.n = true ∧ newB (x.n.mul y.n) (x.e + y.e) = true := by
  simp [dMulB, and_assoc]
theorem dAddV_of {x y : Dw} (h : dAddB x y = true) : dAddV x y = newV ((numA x y).add (numB x y)) (topE x y) := if_pos h
theorem dAddV_no {x y : Dw} (h : dAddB x y = false) : dAddV x y = .zero := if_neg (by simp [h])
theorem dMulV_of {x y : Dw} (h : dMulB x y = true) : dMulV x y = newV (x.n.mul y.n) (x.e + y.e) := if_pos h
theorem dMulV_no {x y : Dw} (h : dMulB x y = false) : dMulV x y = .zero := if_neg (by simp [h])
theorem dAddV_ok {x y : Dw} (h : dAddB x y = true) : (dAddV x y).ok := by rw [dAddV_of h]; exact newV_ok (dAddB_iff.1 h).2.2.2.2.2
theorem dMulV_ok {x y : Dw} (h : dMulB x y = true) : (dMulV x y).ok := by rw [dMulV_of h]; exact newV_ok (dMulB_iff.1 h).2.2.2
/-- Commutativity. -/
theorem numA_comm (x y : Dw) : numA y x = numB x y := by unfold numA numB; rw [topE_comm]
theorem numB_comm (x y : Dw) : numB y x = numA x y := by unfold numA numB; rw [topE_comm]
theorem dAddB_comm (x y : Dw) : dAddB y x = dAddB x y := by
  rw [Bool.eq_iff_iff, dAddB_iff, dAddB_iff, numA_comm x y, numB_comm x y, topE_comm x y, add_comm' (numA x y) (numB x y), addB_comm (numA x y) (numB x y)]
  exact ⟨fun ⟨a, b, c, d, e⟩ => ⟨b, a, d, c, e⟩, fun ⟨a, b, c, d, e⟩ => ⟨b, a, d, c, e⟩⟩
theorem dAddV_comm (x y : Dw) : dAddV y x = dAddV x y := by
  unfold dAddV; rw [dAddB_comm x y, numA_comm x y, numB_comm x y, topE_comm x y, add_comm' (numA x y) (numB x y)]
theorem dMulB_comm (x y : Dw) : dMulB y x = dMulB x y := by
  rw [Bool.eq_iff_iff, dMulB_iff, dMulB_iff, mul_comm' x.n y.n, mulB_comm x.n y.n, Int.add_comm y.e x.e]
  exact ⟨fun ⟨a, b, c⟩ => ⟨b, a, c⟩, fun ⟨a, b, c⟩ => ⟨b, a, c⟩⟩
theorem dMulV_comm (x y : Dw) : dMulV y x = dMulV x y := by
  unfold dMulV; rw [dMulB_comm x y, mul_comm' x.n y.n, Int.add_comm y.e x.e]
/-- s has the value of x + y; p that of x * y. -/
def Adds (s x y : Dw) : Prop := rootN (x.e.toNat + y.e.toNat) s.n = rootN s.e.toNat ((rootN y.e.toNat x.n).add (rootN x.e.toNat y.n))
def Muls (p x y : Dw) : Prop := rootN (x.e.toNat + y.e.toNat) p.n = rootN p.e.toNat (x.n.mul y.n)
theorem adds_of {x y : Dw} (h : dAddB x y = true) : Adds (dAddV x y) x y := by
  obtain ⟨hx, hy, _, _, _, hn⟩ := dAddB_iff.1 h
  have hs := newV_same hn
  rw [← dAddV_of h] at hs
  unfold Same at hs
  have hx0 := hx.2.1
  have hy0 := hy.2.1
  have ht := topE_le x y
  generalize hT : topE x y = T at *
  have hA : numA x y = rootN (T.toNat - x.e.toNat) x.n := by unfold numA; rw [hT]; congr 1; omega
  have hB : numB x y = rootN (T.toNat - y.e.toNat) y.n := by unfold numB; rw [hT]; congr 1; omega
  rw [hA, hB] at hs
  unfold Adds
  apply rootN_inj (k := T.toNat)
  rw [rootN_comm, hs, rootN_comm (x.e.toNat + y.e.toNat), rootN_comm T.toNat]
  congr 1
  rw [rootN_addZ, rootN_addZ, ← rootN_add, ← rootN_add, ← rootN_add, ← rootN_add]
  congr 1 <;> congr 1 <;> omega
theorem muls_of {x y : Dw} (h : dMulB x y = true) : Muls (dMulV x y) x y := by
  obtain ⟨hx, hy, _, hn⟩ := dMulB_iff.1 h
  have hs := newV_same hn
  rw [← dMulV_of h] at hs
  unfold Same at hs
  have hx0 := hx.2.1
  have hy0 := hy.2.1
  unfold Muls
  rw [show x.e.toNat + y.e.toNat = (x.e + y.e).toNat by omega, hs]
theorem divB_neg (n : Zw) : divB n.neg = divB n := by
  rw [Bool.eq_iff_iff, divB_iff, divB_iff, neg_ok, root_neg]
  simp only [Zw.neg, Zw.even]
  refine and_congr_right fun _ => ?_
  omega
theorem divB_conj (n : Zw) : divB n.conj = divB n := by
  rw [Bool.eq_iff_iff, divB_iff, divB_iff, conj_ok, root_conj]
  simp only [Zw.conj, Zw.even]
  refine and_congr_right fun _ => ?_
  omega
theorem dneg_ok {x : Dw} : x.neg.ok ↔ x.ok := by unfold Dw.ok Dw.neg; simp only [neg_ok, divB_neg]
theorem dconj_ok {x : Dw} : x.conj.ok ↔ x.ok := by unfold Dw.ok Dw.conj; simp only [conj_ok, divB_conj]
theorem add_neg_cancel (a b : Zw) : (a.add b).add b.neg = a := by
  cases a; cases b; simp only [Zw.add, Zw.neg, Zw.mk.injEq]; omega
/-- The sum less y is x. -/
theorem dadd_back {x y : Dw} (h : dAddB x y = true) (k : dAddB (dAddV x y) (dNegV y) = true) : dAddV (dAddV x y) (dNegV y) = x := by
  have h1 := adds_of h
  have h2 := adds_of k
  have hx := (dAddB_iff.1 h).1
  have hy := (dAddB_iff.1 h).2.1
  refine unique (dAddV_ok k) hx ?_
  rw [show dNegV y = y.neg from if_pos hy] at *
  generalize dAddV (dAddV x y) y.neg = z at *
  generalize dAddV x y = s at *
  unfold Adds at *
  unfold Same
  apply rootN_inj (k := s.e.toNat + y.e.toNat)
  rw [rootN_comm]
  show rootN x.e.toNat (rootN (s.e.toNat + y.neg.e.toNat) z.n) = _
  rw [h2]
  show rootN x.e.toNat (rootN z.e.toNat ((rootN y.e.toNat s.n).add (rootN s.e.toNat y.n.neg))) = _
  rw [rootN_comm, rootN_comm (s.e.toNat + y.e.toNat)]
  congr 1
  rw [rootN_addZ, ← rootN_add, Nat.add_comm y.e.toNat, h1, rootN_addZ, ← rootN_add, ← rootN_add, ← rootN_add, rootN_neg, Nat.add_comm s.e.toNat x.e.toNat, add_neg_cancel, Nat.add_comm]
/-- The product spreads over the sum. -/
theorem dspreads {x y z : Dw} (h1 : dAddB x y = true) (h2 : dMulB x z = true) (h3 : dMulB y z = true) (h4 : dMulB (dAddV x y) z = true) (h5 : dAddB (dMulV x z) (dMulV y z) = true) :
    dMulV (dAddV x y) z = dAddV (dMulV x z) (dMulV y z) := by
  have a1 := adds_of h1
  have a2 := muls_of h2
  have a3 := muls_of h3
  have a4 := muls_of h4
  have a5 := adds_of h5
  refine unique (dMulV_ok h4) (dAddV_ok h5) ?_
  generalize dMulV (dAddV x y) z = r at *
  generalize dAddV (dMulV x z) (dMulV y z) = t at *
  generalize dAddV x y = s at *
  generalize dMulV x z = p at *
  generalize dMulV y z = q at *
  unfold Adds Muls at *
  unfold Same
  generalize x.e.toNat = ex at *
  generalize y.e.toNat = ey at *
  generalize z.e.toNat = ez at *
  generalize s.e.toNat = es at *
  generalize p.e.toNat = ep at *
  generalize q.e.toNat = eq' at *
  generalize r.e.toNat = er at *
  generalize t.e.toNat = et at *
  -- r = (x + y) z over er; t = p + q over et
  have b4 : rootN (ex + ey + (es + ez)) r.n = rootN (er + es) ((rootN ey (x.n.mul z.n)).add (rootN ex (y.n.mul z.n))) := by
    rw [Nat.add_comm (ex + ey), rootN_add, a4, rootN_comm, rootN_mul, a1, ← rootN_mul, ← rootN_add, Nat.add_comm es er]
    congr 1
    rw [add_mul', rootN_mul, rootN_mul]
  have c2 : ∀ j, rootN (j + (ex + ez)) p.n = rootN (j + ep) (x.n.mul z.n) := fun j => by
    rw [Nat.add_comm j, rootN_add, a2, ← rootN_add, Nat.add_comm]
  have c3 : ∀ j, rootN (j + (ey + ez)) q.n = rootN (j + eq') (y.n.mul z.n) := fun j => by
    rw [Nat.add_comm j, rootN_add, a3, ← rootN_add, Nat.add_comm]
  have b5 : rootN (ep + eq' + (ex + ez + (ey + ez))) t.n = rootN (et + (ez + ep + eq')) ((rootN ey (x.n.mul z.n)).add (rootN ex (y.n.mul z.n))) := by
    rw [rootN_add, a5, ← rootN_add, Nat.add_comm et, rootN_add, rootN_addZ, ← rootN_add, ← rootN_add,
      show eq' + (ex + ez + (ey + ez)) = (eq' + (ey + ez)) + (ex + ez) by omega, c2, show ep + (ex + ez + (ey + ez)) = (ep + (ex + ez)) + (ey + ez) by omega, c3,
      show eq' + (ey + ez) + ep = ey + (ez + ep + eq') by omega, show ep + (ex + ez) + eq' = ex + (ez + ep + eq') by omega, rootN_add ey, rootN_add ex, ← rootN_addZ, ← rootN_add, Nat.add_comm]
  apply rootN_inj (k := (ex + ey + (es + ez)) + (ez + ep + eq'))
  rw [← rootN_add, ← rootN_add, show et + (ex + ey + (es + ez) + (ez + ep + eq')) = (ex + ey + (es + ez)) + (et + (ez + ep + eq')) by omega, rootN_add, b4,
    show er + (ex + ey + (es + ez) + (ez + ep + eq')) = (ep + eq' + (ex + ez + (ey + ez))) + (er + es) by omega, rootN_add (ep + eq' + (ex + ez + (ey + ez))), b5, rootN_comm]
/-- Conjugation is a homomorphism; 1 is neutral. -/
theorem divV_conj {n : Zw} (h : divB n = true) : divV n.conj = (divV n).conj := by
  apply root_inj
  rw [(divV_root ((divB_conj n).trans h)).1, root_conj, (divV_root h).1]
theorem red_conj (k : Nat) (n : Zw) : red k n.conj = ((red k n).1.conj, (red k n).2) := by
  induction k generalizing n with
  | zero => rfl
  | succ k ih =>
    unfold red
    rw [divB_conj]
    cases h : divB n
    · rfl
    · simp only [if_true]; rw [divV_conj h]; exact ih _
theorem dconj_hom {x y : Dw} (h : dMulB x y = true) : dMulB (dConjV x) (dConjV y) = true ∧ dMulV (dConjV x) (dConjV y) = dConjV (dMulV x y) := by
  obtain ⟨hx, hy, hm, hn⟩ := dMulB_iff.1 h
  have hp := dMulV_ok h
  rw [show dConjV x = x.conj from if_pos hx, show dConjV y = y.conj from if_pos hy, show dConjV (dMulV x y) = (dMulV x y).conj from if_pos hp]
  obtain ⟨n1, n2, n3, n4⟩ := newB_iff.1 hn
  have hm2 : mulB x.n.conj y.n.conj = true := mulB_iff.2 ⟨conj_ok.2 hx.1, conj_ok.2 hy.1, by rw [conj_mul]; exact conj_ok.2 (mulB_iff.1 hm).2.2⟩
  have hn2 : newB (x.conj.n.mul y.conj.n) (x.conj.e + y.conj.e) = true := by
    show newB (x.n.conj.mul y.n.conj) (x.e + y.e) = true
    rw [conj_mul]
    exact newB_iff.2 ⟨conj_ok.2 n1, n2, n3, by rw [red_conj]; exact n4⟩
  have hb : dMulB x.conj y.conj = true := dMulB_iff.2 ⟨dconj_ok.2 hx, dconj_ok.2 hy, hm2, hn2⟩
  refine ⟨hb, ?_⟩
  rw [dMulV_of hb, dMulV_of h, newV_of hn2, newV_of hn]
  show Dw.mk (red (x.e + y.e).toNat (x.n.conj.mul y.n.conj)).1 _ = _
  rw [conj_mul, red_conj]
  show Dw.mk _ (((red (x.e + y.e).toNat (x.n.conj.mul y.n.conj)).2 : Nat) : Int) = _
  rw [conj_mul, red_conj]
  rfl
theorem mul_one' (n : Zw) : n.mul ⟨1, 0, 0, 0⟩ = n := by
  cases n; simp [Zw.mul]
theorem oneD_ok : oneD.ok := by decide
theorem dmul_one {x : Dw} (h : x.ok) : dMulB x oneD = true ∧ dMulV x oneD = x := by
  have e : x.n.mul oneD.n = x.n := mul_one' x.n
  have e2 : x.e + oneD.e = x.e := Int.add_zero _
  have hb : dMulB x oneD = true := dMulB_iff.2 ⟨h, oneD_ok, mulB_iff.2 ⟨h.1, by decide, by rw [e]; exact h.1⟩, by rw [e, e2]; exact (newV_self h).1⟩
  exact ⟨hb, by rw [dMulV_of hb, e, e2]; exact (newV_self h).2⟩
end Go.Proofs.Ytlmiebeffdcfhaa
namespace Go.Proofs.Ytlmiebeffdcfhaa
theorem mm4 (a b c d : Int) : a * b * (c * d) = a * c * (b * d) := by rw [Int.mul_assoc, Int.mul_left_comm b c d, ← Int.mul_assoc]
theorem sq_neg (a : Int) : (-a) * (-a) = a * a := Int.neg_mul_neg a a
theorem sq_nn (a : Int) : 0 ≤ a * a := by
  rcases Int.le_total 0 a with h | h
  · exact Int.mul_nonneg h h
  · rw [← sq_neg]; exact Int.mul_nonneg (by omega) (by omega)
theorem sq_le {a b : Int} (ha : 0 ≤ a) (h : a ≤ b) : a * a ≤ b * b := Int.mul_le_mul h h ha (Int.le_trans ha h)
theorem sq_lt {a b : Int} (ha : 0 ≤ a) (h : a < b) : a * a < b * b :=
  Int.lt_of_le_of_lt (Int.mul_le_mul_of_nonneg_left (Int.le_of_lt h) ha) (Int.mul_lt_mul_of_pos_right h (by omega))
theorem lt_of_sq {a b : Int} (hb : 0 ≤ b) (h : a * a < b * b) : a < b := by
  rcases (show a < b ∨ b ≤ a by omega) with k | k
  · exact k
  · have := sq_le hb k; omega
theorem le_of_sq {a b : Int} (hb : 0 ≤ b) (h : a * a ≤ b * b) : a ≤ b := by
  rcases (show b < a ∨ a ≤ b by omega) with k | k
  · have := sq_lt hb k; omega
  · exact k
theorem sq_zero {a : Int} (h : a * a = 0) : a = 0 := by
  rcases Int.mul_eq_zero.1 h with h | h <;> exact h
theorem sq_abs (a : Int) : (a.natAbs : Int) * (a.natAbs : Int) = a * a := Int.natAbs_mul_self' a
theorem even_sq {u w : Int} (h : u * u = 2 * w) : ∃ k, u = 2 * k := by
  rcases (show u % 2 = 0 ∨ u % 2 = 1 by omega) with h2 | h2
  · exact ⟨u / 2, by omega⟩
  · exfalso
    obtain ⟨k, rfl⟩ : ∃ k, u = 2 * k + 1 := ⟨u / 2, by omega⟩
    simp only [Int.add_mul, Int.mul_add, Int.mul_one, Int.one_mul] at h
    rw [show 2 * k * (2 * k) = 2 * (k * (2 * k)) by rw [Int.mul_assoc]] at h
    omega
/-- The root of 2 is no fraction. -/
theorem sq2 : ∀ (n : Nat) (u v : Int), u.natAbs ≤ n → u * u = 2 * (v * v) → u = 0 ∧ v = 0 := by
  intro n
  induction n with
  | zero =>
    intro u v hn h
    have hu : u = 0 := by omega
    subst hu
    exact ⟨rfl, sq_zero (by omega)⟩
  | succ n ih =>
    intro u v hn h
    by_cases hu : u = 0
    · subst hu; exact ⟨rfl, sq_zero (by omega)⟩
    · obtain ⟨k, rfl⟩ := even_sq h
      have hk : v * v = 2 * (k * k) := by
        rw [Int.mul_assoc, show k * (2 * k) = 2 * (k * k) by rw [Int.mul_left_comm]] at h; omega
      have hpos : 0 < (2 * k) * (2 * k) := by
        have := sq_nn (2 * k)
        have hne : (2 * k) * (2 * k) ≠ 0 := fun e => hu (sq_zero e)
        omega
      have hlt : (v.natAbs : Int) < ((2 * k).natAbs : Int) := lt_of_sq (by omega) (by rw [sq_abs, sq_abs]; omega)
      obtain ⟨h1, h2⟩ := ih v k (by omega) hk
      subst h2
      exact ⟨by omega, h1⟩
theorem irr {u v : Int} (h : u * u = 2 * (v * v)) : u = 0 ∧ v = 0 := sq2 _ u v (Nat.le_refl _) h
/-- u + v times the root of 2 is positive. -/
def Pos (u v : Int) : Prop := (0 ≤ u ∧ 0 ≤ v ∧ (u ≠ 0 ∨ v ≠ 0)) ∨ (0 < u ∧ v < 0 ∧ 2 * (v * v) < u * u) ∨ (u < 0 ∧ 0 < v ∧ u * u < 2 * (v * v))
def sg (n : Int) : Int := if 0 < n then 1 else if n < 0 then -1 else 0
def sgn (u v : Int) : Int := if (0 ≤ u ∧ 0 ≤ v) ∨ (u ≤ 0 ∧ v ≤ 0) then sg (u + v) else sg u * sg (u * u - 2 * v * v)
theorem sg_pos {n : Int} (h : 0 < n) : sg n = 1 := if_pos h
theorem sg_neg {n : Int} (h : n < 0) : sg n = -1 := by rw [sg, if_neg (by omega), if_pos h]
theorem sg_zero : sg 0 = 0 := rfl
/-- One of three. -/
theorem tri (u v : Int) : (Pos u v ∧ sgn u v = 1) ∨ (Pos (-u) (-v) ∧ sgn u v = -1) ∨ (u = 0 ∧ v = 0 ∧ sgn u v = 0) := by
  by_cases h : (0 ≤ u ∧ 0 ≤ v) ∨ (u ≤ 0 ∧ v ≤ 0)
  · rw [sgn, if_pos h]
    rcases (show u + v = 0 ∨ 0 < u + v ∨ u + v < 0 by omega) with k | k | k
    · exact .inr (.inr ⟨by omega, by omega, by rw [k]; rfl⟩)
    · exact .inl ⟨.inl (by omega), sg_pos k⟩
    · exact .inr (.inl ⟨.inl (by omega), sg_neg k⟩)
  · rw [sgn, if_neg h, Int.mul_assoc]
    have hne : u * u ≠ 2 * (v * v) := fun e => by have := irr e; omega
    rcases (show (0 < u ∧ v < 0) ∨ (u < 0 ∧ 0 < v) by omega) with ⟨hu, hv⟩ | ⟨hu, hv⟩
    · rw [sg_pos hu]
      rcases (show 2 * (v * v) < u * u ∨ u * u < 2 * (v * v) by omega) with k | k
      · exact .inl ⟨.inr (.inl ⟨hu, hv, k⟩), by rw [sg_pos (by omega)]; rfl⟩
      · exact .inr (.inl ⟨.inr (.inr ⟨by omega, by omega, by rw [sq_neg, sq_neg]; exact k⟩), by rw [sg_neg (by omega)]; rfl⟩)
    · rw [sg_neg hu]
      rcases (show 2 * (v * v) < u * u ∨ u * u < 2 * (v * v) by omega) with k | k
      · exact .inr (.inl ⟨.inr (.inl ⟨by omega, by omega, by rw [sq_neg, sq_neg]; exact k⟩), by rw [sg_pos (by omega)]; rfl⟩)
      · exact .inl ⟨.inr (.inr ⟨hu, hv, k⟩), by rw [sg_neg (by omega)]; rfl⟩
theorem pos_not_zero {u v : Int} (h : Pos u v) (hu : u = 0) (hv : v = 0) : False := by
  subst hu hv; unfold Pos at h; omega
theorem pos_not_neg {u v : Int} (h : Pos u v) (k : Pos (-u) (-v)) : False := by
  unfold Pos at h k
  rw [sq_neg, sq_neg] at k
  omega
theorem sgn_pos {u v : Int} : sgn u v = 1 ↔ Pos u v := by
  rcases tri u v with ⟨h, k⟩ | ⟨h, k⟩ | ⟨h1, h2, k⟩
  · exact ⟨fun _ => h, fun _ => k⟩
  · exact ⟨fun e => by rw [k] at e; omega, fun p => (pos_not_neg p h).elim⟩
  · exact ⟨fun e => by rw [k] at e; omega, fun p => (pos_not_zero p h1 h2).elim⟩
theorem sgn_neg {u v : Int} : sgn (-u) (-v) = -sgn u v := by
  rcases tri u v with ⟨h, k⟩ | ⟨h, k⟩ | ⟨h1, h2, k⟩
  · rcases tri (-u) (-v) with ⟨h', k'⟩ | ⟨h', k'⟩ | ⟨h1', h2', k'⟩
    · exact (pos_not_neg h h').elim
    · rw [k, k']
    · exact (pos_not_zero h (by omega) (by omega)).elim
  · rw [k, sgn_pos.2 h]; rfl
  · subst h1 h2; rfl
theorem sgn_nonneg {u v : Int} : 0 ≤ sgn u v ↔ Pos u v ∨ (u = 0 ∧ v = 0) := by
  rcases tri u v with ⟨h, k⟩ | ⟨h, k⟩ | ⟨h1, h2, k⟩
  · exact ⟨fun _ => .inl h, fun _ => by rw [k]; decide⟩
  · refine ⟨fun e => by rw [k] at e; omega, ?_⟩
    rintro (p | ⟨p, q⟩)
    · exact (pos_not_neg p h).elim
    · exact (pos_not_zero h (by omega) (by omega)).elim
  · exact ⟨fun _ => .inr ⟨h1, h2⟩, fun _ => by rw [k]; decide⟩
theorem sgn_zero {u v : Int} : sgn u v = 0 ↔ u = 0 ∧ v = 0 := by
  rcases tri u v with ⟨h, k⟩ | ⟨h, k⟩ | ⟨h1, h2, k⟩
  · exact ⟨fun e => by rw [k] at e; omega, fun ⟨p, q⟩ => (pos_not_zero h p q).elim⟩
  · exact ⟨fun e => by rw [k] at e; omega, fun ⟨p, q⟩ => (pos_not_zero h (by omega) (by omega)).elim⟩
  · exact ⟨fun _ => ⟨h1, h2⟩, fun _ => k⟩
/-- Products of roots: x below y root 2 and z below w root 2. -/
theorem cross_le {x y z w : Int} (hy : 0 ≤ y) (_ : 0 ≤ z) (hw : 0 ≤ w) (h1 : x * x ≤ 2 * (y * y)) (h2 : z * z ≤ 2 * (w * w)) : x * z ≤ 2 * (y * w) := by
  have hyw := Int.mul_nonneg hy hw
  apply le_of_sq (by omega)
  have e1 : x * z * (x * z) = (x * x) * (z * z) := mm4 x z x z
  have e2 : 2 * (y * w) * (2 * (y * w)) = (2 * (y * y)) * (2 * (w * w)) := by
    rw [mm4 2 (y * w) 2 (y * w), mm4 y w y w, mm4 2 (y * y) 2 (w * w)]
  rw [e1, e2]
  exact Int.mul_le_mul h1 h2 (sq_nn z) (by have := sq_nn y; omega)
theorem sum_sq (x z : Int) : (x + z) * (x + z) = x * x + 2 * (x * z) + z * z := by
  rw [Int.add_mul, Int.mul_add, Int.mul_add, Int.mul_comm z x]; omega
theorem below_sum {x y z w : Int} (hy : 0 ≤ y) (hz : 0 ≤ z) (hw : 0 ≤ w) (h1 : x * x ≤ 2 * (y * y)) (h2 : z * z < 2 * (w * w)) : (x + z) * (x + z) < 2 * ((y + w) * (y + w)) := by
  have := cross_le hy hz hw h1 (Int.le_of_lt h2)
  rw [sum_sq, sum_sq]; omega
theorem cross_ge {x y z w : Int} (hx : 0 ≤ x) (_ : 0 ≤ y) (hz : 0 ≤ z) (_ : 0 ≤ w) (h1 : 2 * (y * y) ≤ x * x) (h2 : 2 * (w * w) ≤ z * z) : 2 * (y * w) ≤ x * z := by
  apply le_of_sq (Int.mul_nonneg hx hz)
  have e1 : x * z * (x * z) = (x * x) * (z * z) := mm4 x z x z
  have e2 : 2 * (y * w) * (2 * (y * w)) = (2 * (y * y)) * (2 * (w * w)) := by
    rw [mm4 2 (y * w) 2 (y * w), mm4 y w y w, mm4 2 (y * y) 2 (w * w)]
  rw [e1, e2]
  exact Int.mul_le_mul h1 h2 (by have := sq_nn w; omega) (sq_nn x)
theorem above_sum {x y z w : Int} (hx : 0 ≤ x) (hy : 0 ≤ y) (hz : 0 ≤ z) (hw : 0 ≤ w) (h1 : 2 * (y * y) ≤ x * x) (h2 : 2 * (w * w) < z * z) : 2 * ((y + w) * (y + w)) < (x + z) * (x + z) := by
  have := cross_ge hx hy hz hw h1 (Int.le_of_lt h2)
  rw [sum_sq, sum_sq]; omega
theorem Pos.mix {p q r s : Int} (hp : 0 < p) (hq : 0 < q) (hr : 0 < r) (hs : 0 < s) (h1 : 2 * (q * q) < p * p) (h2 : r * r < 2 * (s * s)) : Pos (p - r) (s - q) := by
  have hd1 : (r - p) * (r - p) = (p - r) * (p - r) := by rw [← sq_neg]; congr 1 <;> omega
  have hd2 : (q - s) * (q - s) = (s - q) * (s - q) := by rw [← sq_neg]; congr 1 <;> omega
  rcases (show p - r ≤ 0 ∧ s - q ≤ 0 ∨ (0 ≤ p - r ∧ 0 ≤ s - q ∧ (p - r ≠ 0 ∨ s - q ≠ 0)) ∨ (0 < p - r ∧ s - q < 0) ∨ (p - r < 0 ∧ 0 < s - q) by omega) with ⟨a, b⟩ | h | ⟨a, b⟩ | ⟨a, b⟩
  · exfalso
    have e1 := sq_le (Int.le_of_lt hp) (show p ≤ r by omega)
    have e2 := sq_le (Int.le_of_lt hs) (show s ≤ q by omega)
    omega
  · exact .inl h
  · refine .inr (.inl ⟨a, b, ?_⟩)
    rcases (show 2 * ((s - q) * (s - q)) < (p - r) * (p - r) ∨ (p - r) * (p - r) ≤ 2 * ((s - q) * (s - q)) by omega) with k | k
    · exact k
    · exfalso
      have := below_sum (x := p - r) (y := q - s) (z := r) (w := s) (by omega) (by omega) (by omega) (by rw [hd2]; exact k) h2
      rw [show p - r + r = p by omega, show q - s + s = q by omega] at this
      omega
  · refine .inr (.inr ⟨a, b, ?_⟩)
    rcases (show (p - r) * (p - r) < 2 * ((s - q) * (s - q)) ∨ 2 * ((s - q) * (s - q)) ≤ (p - r) * (p - r) by omega) with k | k
    · exact k
    · exfalso
      have := above_sum (x := r - p) (y := s - q) (z := p) (w := q) (by omega) (by omega) (by omega) (by omega) (by rw [hd1]; exact k) h1
      rw [show r - p + p = r by omega, show s - q + q = s by omega] at this
      omega
/-- The sum of positive numbers is positive. -/
theorem Pos.add {u v x y : Int} (h : Pos u v) (k : Pos x y) : Pos (u + x) (v + y) := by
  rcases h with ⟨h1, h2, h3⟩ | ⟨h1, h2, h3⟩ | ⟨h1, h2, h3⟩
  · rcases k with ⟨k1, k2, k3⟩ | ⟨k1, k2, k3⟩ | ⟨k1, k2, k3⟩
    · exact .inl (by omega)
    · by_cases hv : 0 ≤ v + y
      · exact .inl (by omega)
      · refine .inr (.inl ⟨by omega, by omega, ?_⟩)
        have e1 := sq_le (a := -(v + y)) (b := -y) (by omega) (by omega)
        have e2 := sq_le (a := x) (b := u + x) (by omega) (by omega)
        rw [sq_neg, sq_neg] at e1
        omega
    · by_cases hv : 0 ≤ u + x
      · exact .inl (by omega)
      · refine .inr (.inr ⟨by omega, by omega, ?_⟩)
        have e1 := sq_le (a := -(u + x)) (b := -x) (by omega) (by omega)
        have e2 := sq_le (a := y) (b := v + y) (by omega) (by omega)
        rw [sq_neg, sq_neg] at e1
        omega
  · rcases k with ⟨k1, k2, k3⟩ | ⟨k1, k2, k3⟩ | ⟨k1, k2, k3⟩
    · by_cases hv : 0 ≤ v + y
      · exact .inl (by omega)
      · refine .inr (.inl ⟨by omega, by omega, ?_⟩)
        have e1 := sq_le (a := -(v + y)) (b := -v) (by omega) (by omega)
        have e2 := sq_le (a := u) (b := u + x) (by omega) (by omega)
        rw [sq_neg, sq_neg] at e1
        omega
    · refine .inr (.inl ⟨by omega, by omega, ?_⟩)
      have := above_sum (x := u) (y := -v) (z := x) (w := -y) (by omega) (by omega) (by omega) (by omega) (by rw [sq_neg]; omega) (by rw [sq_neg]; omega)
      rw [show -v + -y = -(v + y) by omega, sq_neg] at this
      exact this
    · have := Pos.mix (p := u) (q := -v) (r := -x) (s := y) h1 (by omega) (by omega) k2 (by rw [sq_neg]; exact h3) (by rw [sq_neg]; exact k3)
      rw [show u - -x = u + x by omega, show y - -v = v + y by omega] at this
      exact this
  · rcases k with ⟨k1, k2, k3⟩ | ⟨k1, k2, k3⟩ | ⟨k1, k2, k3⟩
    · by_cases hv : 0 ≤ u + x
      · exact .inl (by omega)
      · refine .inr (.inr ⟨by omega, by omega, ?_⟩)
        have e1 := sq_le (a := -(u + x)) (b := -u) (by omega) (by omega)
        have e2 := sq_le (a := v) (b := v + y) (by omega) (by omega)
        rw [sq_neg, sq_neg] at e1
        omega
    · have := Pos.mix (p := x) (q := -y) (r := -u) (s := v) k1 (by omega) (by omega) h2 (by rw [sq_neg]; exact k3) (by rw [sq_neg]; exact h3)
      rw [show x - -u = u + x by omega, show v - -y = v + y by omega] at this
      exact this
    · refine .inr (.inr ⟨by omega, by omega, ?_⟩)
      have := below_sum (x := -u) (y := v) (z := -x) (w := y) (by omega) (by omega) (by omega) (by rw [sq_neg]; omega) (by rw [sq_neg]; exact k3)
      rw [show -u + -x = -(u + x) by omega, sq_neg] at this
      exact this
/-- Times the root of 2. -/
theorem pos_root {u v : Int} : Pos (2 * v) u ↔ Pos u v := by
  have e : 2 * v * (2 * v) = 4 * (v * v) := by rw [mm4]; rfl
  unfold Pos
  rw [e]
  omega
theorem sgn_root (u v : Int) : sgn (2 * v) u = sgn u v := by
  rcases tri u v with ⟨h, k⟩ | ⟨h, k⟩ | ⟨h1, h2, k⟩
  · rw [k]; exact sgn_pos.2 (pos_root.2 h)
  · rw [k]
    have := sgn_pos.2 (pos_root.2 h)
    rw [show 2 * -v = -(2 * v) by omega, sgn_neg] at this
    omega
  · subst h1 h2; rfl
/-- A square is not negative: (p + q root 2)^2 = (p^2 + 2 q^2) + 2 p q root 2. -/
theorem pos_sq {p q : Int} (h : p ≠ 0 ∨ q ≠ 0) : Pos (p * p + 2 * (q * q)) (2 * (p * q)) := by
  have hp := sq_nn p
  have hq := sq_nn q
  have hne : p * p + 2 * (q * q) ≠ 0 := fun e => by
    rcases h with h | h
    · exact h (sq_zero (by omega))
    · exact h (sq_zero (by omega))
  by_cases hs : 0 ≤ 2 * (p * q)
  · exact .inl ⟨by omega, hs, .inl hne⟩
  · refine .inr (.inl ⟨by omega, by omega, ?_⟩)
    have hd := sq_nn (p * p - 2 * (q * q))
    have hd2 : p * p - 2 * (q * q) ≠ 0 := fun e => by
      have := irr (u := p) (v := q) (by omega)
      obtain ⟨rfl, rfl⟩ := this
      simp at hs
    have hd3 : (p * p - 2 * (q * q)) * (p * p - 2 * (q * q)) ≠ 0 := fun e => hd2 (sq_zero e)
    have e1 : (p * p + 2 * (q * q)) * (p * p + 2 * (q * q)) = p * p * (p * p) + 4 * (p * p * (q * q)) + 4 * (q * q * (q * q)) := by
      rw [sum_sq, Int.mul_left_comm (p * p) 2, mm4 2 (q * q) 2 (q * q)]; omega
    have e2 : (p * p - 2 * (q * q)) * (p * p - 2 * (q * q)) = p * p * (p * p) - 4 * (p * p * (q * q)) + 4 * (q * q * (q * q)) := by
      rw [show p * p - 2 * (q * q) = p * p + -(2 * (q * q)) by omega, sum_sq, sq_neg, Int.mul_neg, Int.mul_left_comm (p * p) 2, mm4 2 (q * q) 2 (q * q)]; omega
    have e3 : 2 * (2 * (p * q) * (2 * (p * q))) = 8 * (p * p * (q * q)) := by
      rw [mm4 2 (p * q) 2 (p * q), mm4 p q p q]; omega
    omega
end Go.Proofs.Ytlmiebeffdcfhaa
