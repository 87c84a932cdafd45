/- Sums and products in D[omega] in plain integers: what the functions return, and the chapter's properties. -/
import Derived.Test.YtgicldokglpimaaBaseB03
namespace Go.Proofs.Ytgicldokglpimaa
theorem rootN_comm (j k : Nat) (x : Zw) : rootN j (rootN k x) = rootN k (rootN j x) := by
  rw [← rootN_add, ← rootN_add, Nat.add_comm]
/-- n is multiplied by the root k times within the limit. -/
def upB : Nat → Zw → Bool
  | 0, _ => true
  | k + 1, n => mulB n rootE && upB k n.root
def upV (k : Nat) (n : Zw) : Zw := if upB k n then rootN k n else .zero
theorem upV_of {k : Nat} {n : Zw} (h : upB k n = true) : upV k n = rootN k n := if_pos h
/-- The larger exponent. -/
def topE (x y : Dw) : Int := if y.e < x.e then x.e else y.e
theorem topE_comm (x y : Dw) : topE y x = topE x y := by unfold topE; split <;> split <;> omega
theorem topE_le (x y : Dw) : x.e ≤ topE x y ∧ y.e ≤ topE x y ∧ (topE x y = x.e ∨ topE x y = y.e) := by unfold topE; split <;> omega
/-- The two numerators over the larger exponent. -/
def numA (x y : Dw) : Zw := rootN (topE x y - x.e).toNat x.n
def numB (x y : Dw) : Zw := rootN (topE x y - y.e).toNat y.n
def dAddB (x y : Dw) : Bool := decide (x.ok ∧ y.ok) && upB (topE x y - x.e).toNat x.n && upB (topE x y - y.e).toNat y.n && addB (numA x y) (numB x y) && newB ((numA x y).add (numB x y)) (topE x y)
def dAddV (x y : Dw) : Dw := if dAddB x y then newV ((numA x y).add (numB x y)) (topE x y) else .zero
def dMulB (x y : Dw) : Bool := decide (x.ok ∧ y.ok) && mulB x.n y.n && newB (x.n.mul y.n) (x.e + y.e)
def dMulV (x y : Dw) : Dw := if dMulB x y then newV (x.n.mul y.n) (x.e + y.e) else .zero
def Dw.neg (x : Dw) : Dw := ⟨x.n.neg, x.e⟩
def Dw.conj (x : Dw) : Dw := ⟨x.n.conj, x.e⟩
def dNegV (x : Dw) : Dw := if x.ok then x.neg else .zero
def dConjV (x : Dw) : Dw := if x.ok then x.conj else .zero
def oneD : Dw := ⟨⟨1, 0, 0, 0⟩, 0⟩
theorem dAddB_iff {x y : Dw} : dAddB x y = true ↔ x.ok ∧ y.ok ∧ upB (topE x y - x.e).toNat x.n = true ∧ upB (topE x y - y.e).toNat y.n = true ∧ addB (numA x y) (numB x y) = true ∧ newB ((numA x y).add (numB x y)) (topE x y) = true := by
  simp [dAddB, and_assoc]
theorem dMulB_iff {x y : Dw} : dMulB x y = true ↔ x.ok ∧ y.ok ∧ mulB x.n y.n = true ∧ newB (x.n.mul y.n) (x.e + y.e) = true := by
  simp [dMulB, and_assoc]
theorem dAddV_of {x y : Dw} (h : dAddB x y = true) : dAddV x y = newV ((numA x y).add (numB x y)) (topE x y) := if_pos h
theorem dAddV_no {x y : Dw} (h : dAddB x y = false) : dAddV x y = .zero := if_neg (by simp [h])
theorem dMulV_of {x y : Dw} (h : dMulB x y = true) : dMulV x y = newV (x.n.mul y.n) (x.e + y.e) := if_pos h
theorem dMulV_no {x y : Dw} (h : dMulB x y = false) : dMulV x y = .zero := if_neg (by simp [h])
theorem dAddV_ok {x y : Dw} (h : dAddB x y = true) : (dAddV x y).ok := by rw [dAddV_of h]; exact newV_ok (dAddB_iff.1 h).2.2.2.2.2
theorem dMulV_ok {x y : Dw} (h : dMulB x y = true) : (dMulV x y).ok := by rw [dMulV_of h]; exact newV_ok (dMulB_iff.1 h).2.2.2
/-- Commutativity. -/
theorem numA_comm (x y : Dw) : numA y x = numB x y := by unfold numA numB; rw [topE_comm]
theorem numB_comm (x y : Dw) : numB y x = numA x y := by unfold numA numB; rw [topE_comm]
theorem dAddB_comm (x y : Dw) : dAddB y x = dAddB x y := by
  rw [Bool.eq_iff_iff, dAddB_iff, dAddB_iff, numA_comm x y, numB_comm x y, topE_comm x y, add_comm' (numA x y) (numB x y), addB_comm (numA x y) (numB x y)]
  exact ⟨fun ⟨a, b, c, d, e⟩ => ⟨b, a, d, c, e⟩, fun ⟨a, b, c, d, e⟩ => ⟨b, a, d, c, e⟩⟩
theorem dAddV_comm (x y : Dw) : dAddV y x = dAddV x y := by
  unfold dAddV; rw [dAddB_comm x y, numA_comm x y, numB_comm x y, topE_comm x y, add_comm' (numA x y) (numB x y)]
theorem dMulB_comm (x y : Dw) : dMulB y x = dMulB x y := by
  rw [Bool.eq_iff_iff, dMulB_iff, dMulB_iff, mul_comm' x.n y.n, mulB_comm x.n y.n, Int.add_comm y.e x.e]
  exact ⟨fun ⟨a, b, c⟩ => ⟨b, a, c⟩, fun ⟨a, b, c⟩ => ⟨b, a, c⟩⟩
theorem dMulV_comm (x y : Dw) : dMulV y x = dMulV x y := by
  unfold dMulV; rw [dMulB_comm x y, mul_comm' x.n y.n, Int.add_comm y.e x.e]
/-- s has the value of x + y; p that of x * y. -/
def Adds (s x y : Dw) : Prop := rootN (x.e.toNat + y.e.toNat) s.n = rootN s.e.toNat ((rootN y.e.toNat x.n).add (rootN x.e.toNat y.n))
def Muls (p x y : Dw) : Prop := rootN (x.e.toNat + y.e.toNat) p.n = rootN p.e.toNat (x.n.mul y.n)
theorem adds_of {x y : Dw} (h : dAddB x y = true) : Adds (dAddV x y) x y := by
  obtain ⟨hx, hy, _, _, _, hn⟩ := dAddB_iff.1 h
  have hs := newV_same hn
  rw [← dAddV_of h] at hs
  unfold Same at hs
  have hx0 := hx.2.1
  have hy0 := hy.2.1
  have ht := topE_le x y
  generalize hT : topE x y = T at *
  have hA : numA x y = rootN (T.toNat - x.e.toNat) x.n := by unfold numA; rw [hT]; congr 1; omega
  have hB : numB x y = rootN (T.toNat - y.e.toNat) y.n := by unfold numB; rw [hT]; congr 1; omega
  rw [hA, hB] at hs
  unfold Adds
  apply rootN_inj (k := T.toNat)
  rw [rootN_comm, hs, rootN_comm (x.e.toNat + y.e.toNat), rootN_comm T.toNat]
  congr 1
  rw [rootN_addZ, rootN_addZ, ← rootN_add, ← rootN_add, ← rootN_add, ← rootN_add]
  congr 1 <;> congr 1 <;> omega
theorem muls_of {x y : Dw} (h : dMulB x y = true) : Muls (dMulV x y) x y := by
  obtain ⟨hx, hy, _, hn⟩ := dMulB_iff.1 h
  have hs := newV_same hn
  rw [← dMulV_of h] at hs
  unfold Same at hs
  have hx0 := hx.2.1
  have hy0 := hy.2.1
  unfold Muls
  rw [show x.e.toNat + y.e.toNat = (x.e + y.e).toNat by omega, hs]
theorem divB_neg (n : Zw) : divB n.neg = divB n := by
  rw [Bool.eq_iff_iff, divB_iff, divB_iff, neg_ok, root_neg]
  simp only [Zw.neg, Zw.even]
  refine and_congr_right fun _ => ?_
  omega
theorem divB_conj (n : Zw) : divB n.conj = divB n := by
  rw [Bool.eq_iff_iff, divB_iff, divB_iff, conj_ok, root_conj]
  simp only [Zw.conj, Zw.even]
  refine and_congr_right fun _ => ?_
  omega
theorem dneg_ok {x : Dw} : x.neg.ok ↔ x.ok := by unfold Dw.ok Dw.neg; simp only [neg_ok, divB_neg]
theorem dconj_ok {x : Dw} : x.conj.ok ↔ x.ok := by unfold Dw.ok Dw.conj; simp only [conj_ok, divB_conj]
theorem add_neg_cancel (a b : Zw) : (a.add b).add b.neg = a := by
  cases a; cases b; simp only [Zw.add, Zw.neg, Zw.mk.injEq]; omega
/-- The sum less y is x. -/
theorem dadd_back {x y : Dw} (h : dAddB x y = true) (k : dAddB (dAddV x y) (dNegV y) = true) : dAddV (dAddV x y) (dNegV y) = x := by
  have h1 := adds_of h
  have h2 := adds_of k
  have hx := (dAddB_iff.1 h).1
  have hy := (dAddB_iff.1 h).2.1
  refine unique (dAddV_ok k) hx ?_
  rw [show dNegV y = y.neg from if_pos hy] at *
  generalize dAddV (dAddV x y) y.neg = z at *
  generalize dAddV x y = s at *
  unfold Adds at *
  unfold Same
  apply rootN_inj (k := s.e.toNat + y.e.toNat)
  rw [rootN_comm]
  show rootN x.e.toNat (rootN (s.e.toNat + y.neg.e.toNat) z.n) = _
  rw [h2]
  show rootN x.e.toNat (rootN z.e.toNat ((rootN y.e.toNat s.n).add (rootN s.e.toNat y.n.neg))) = _
  rw [rootN_comm, rootN_comm (s.e.toNat + y.e.toNat)]
  congr 1
  rw [rootN_addZ, ← rootN_add, Nat.add_comm y.e.toNat, h1, rootN_addZ, ← rootN_add, ← rootN_add, ← rootN_add, rootN_neg, Nat.add_comm s.e.toNat x.e.toNat, add_neg_cancel, Nat.add_comm]
/-- The product spreads over the sum. -/
theorem dspreads {x y z : Dw} (h1 : dAddB x y = true) (h2 : dMulB x z = true) (h3 : dMulB y z = true) (h4 : dMulB (dAddV x y) z = true) (h5 : dAddB (dMulV x z) (dMulV y z) = true) :
    dMulV (dAddV x y) z = dAddV (dMulV x z) (dMulV y z) := by
  have a1 := adds_of h1
  have a2 := muls_of h2
  have a3 := muls_of h3
  have a4 := muls_of h4
  have a5 := adds_of h5
  refine unique (dMulV_ok h4) (dAddV_ok h5) ?_
  generalize dMulV (dAddV x y) z = r at *
  generalize dAddV (dMulV x z) (dMulV y z) = t at *
  generalize dAddV x y = s at *
  generalize dMulV x z = p at *
  generalize dMulV y z = q at *
  unfold Adds Muls at *
  unfold Same
  generalize x.e.toNat = ex at *
  generalize y.e.toNat = ey at *
  generalize z.e.toNat = ez at *
  generalize s.e.toNat = es at *
  generalize p.e.toNat = ep at *
  generalize q.e.toNat = eq' at *
  generalize r.e.toNat = er at *
  generalize t.e.toNat = et at *
  -- r = (x + y) z over er; t = p + q over et
  have b4 : rootN (ex + ey + (es + ez)) r.n = rootN (er + es) ((rootN ey (x.n.mul z.n)).add (rootN ex (y.n.mul z.n))) := by
    rw [Nat.add_comm (ex + ey), rootN_add, a4, rootN_comm, rootN_mul, a1, ← rootN_mul, ← rootN_add, Nat.add_comm es er]
    congr 1
    rw [add_mul', rootN_mul, rootN_mul]
  have c2 : ∀ j, rootN (j + (ex + ez)) p.n = rootN (j + ep) (x.n.mul z.n) := fun j => by
    rw [Nat.add_comm j, rootN_add, a2, ← rootN_add, Nat.add_comm]
  have c3 : ∀ j, rootN (j + (ey + ez)) q.n = rootN (j + eq') (y.n.mul z.n) := fun j => by
    rw [Nat.add_comm j, rootN_add, a3, ← rootN_add, Nat.add_comm]
  have b5 : rootN (ep + eq' + (ex + ez + (ey + ez))) t.n = rootN (et + (ez + ep + eq')) ((rootN ey (x.n.mul z.n)).add (rootN ex (y.n.mul z.n))) := by
    rw [rootN_add, a5, ← rootN_add, Nat.add_comm et, rootN_add, rootN_addZ, ← rootN_add, ← rootN_add,
      show eq' + (ex + ez + (ey + ez)) = (eq' + (ey + ez)) + (ex + ez) by omega, c2, show ep + (ex + ez + (ey + ez)) = (ep + (ex + ez)) + (ey + ez) by omega, c3,
      show eq' + (ey + ez) + ep = ey + (ez + ep + eq') by omega, show ep + (ex + ez) + eq' = ex + (ez + ep + eq') by omega, rootN_add ey, rootN_add ex, ← rootN_addZ, ← rootN_add, Nat.add_comm]
  apply rootN_inj (k := (ex + ey + (es + ez)) + (ez + ep + eq'))
  rw [← rootN_add, ← rootN_add, show et + (ex + ey + (es + ez) + (ez + ep + eq')) = (ex + ey + (es + ez)) + (et + (ez + ep + eq')) by omega, rootN_add, b4,
    show er + (ex + ey + (es + ez) + (ez + ep + eq')) = (ep + eq' + (ex + ez + (ey + ez))) + (er + es) by omega, rootN_add (ep + eq' + (ex + ez + (ey + ez))), b5, rootN_comm]
/-- Conjugation is a homomorphism; 1 is neutral. -/
theorem divV_conj {n : Zw} (h : divB n = true) : divV n.conj = (divV n).conj := by
  apply root_inj
  rw [(divV_root ((divB_conj n).trans h)).1, root_conj, (divV_root h).1]
theorem red_conj (k : Nat) (n : Zw) : red k n.conj = ((red k n).1.conj, (red k n).2) := by
  induction k generalizing n with
  | zero => rfl
  | succ k ih =>
    unfold red
    rw [divB_conj]
    cases h : divB n
    · rfl
    · simp only [if_true]; rw [divV_conj h]; exact ih _
theorem dconj_hom {x y : Dw} (h : dMulB x y = true) : dMulB (dConjV x) (dConjV y) = true ∧ dMulV (dConjV x) (dConjV y) = dConjV (dMulV x y) := by
  obtain ⟨hx, hy, hm, hn⟩ := dMulB_iff.1 h
  have hp := dMulV_ok h
  rw [show dConjV x = x.conj from if_pos hx, show dConjV y = y.conj from if_pos hy, show dConjV (dMulV x y) = (dMulV x y).conj from if_pos hp]
  obtain ⟨n1, n2, n3, n4⟩ := newB_iff.1 hn
  have hm2 : mulB x.n.conj y.n.conj = true := mulB_iff.2 ⟨conj_ok.2 hx.1, conj_ok.2 hy.1, by rw [conj_mul]; exact conj_ok.2 (mulB_iff.1 hm).2.2⟩
  have hn2 : newB (x.conj.n.mul y.conj.n) (x.conj.e + y.conj.e) = true := by
    show newB (x.n.conj.mul y.n.conj) (x.e + y.e) = true
    rw [conj_mul]
    exact newB_iff.2 ⟨conj_ok.2 n1, n2, n3, by rw [red_conj]; exact n4⟩
  have hb : dMulB x.conj y.conj = true := dMulB_iff.2 ⟨dconj_ok.2 hx, dconj_ok.2 hy, hm2, hn2⟩
  refine ⟨hb, ?_⟩
  rw [dMulV_of hb, dMulV_of h, newV_of hn2, newV_of hn]
  show Dw.mk (red (x.e + y.e).toNat (x.n.conj.mul y.n.conj)).1 _ = _
  rw [conj_mul, red_conj]
  show Dw.mk _ (((red (x.e + y.e).toNat (x.n.conj.mul y.n.conj)).2 : Nat) : Int) = _
  rw [conj_mul, red_conj]
  rfl
theorem mul_one' (n : Zw) : n.mul ⟨1, 0, 0, 0⟩ = n := by
  cases n; simp [Zw.mul]
theorem oneD_ok : oneD.ok := by decide
theorem dmul_one {x : Dw} (h : x.ok) : dMulB x oneD = true ∧ dMulV x oneD = x := by
  have e : x.n.mul oneD.n = x.n := mul_one' x.n
  have e2 : x.e + oneD.e = x.e := Int.add_zero _
  have hb : dMulB x oneD = true := dMulB_iff.2 ⟨h, oneD_ok, mulB_iff.2 ⟨h.1, by decide, by rw [e]; exact h.1⟩, by rw [e, e2]; exact (newV_self h).1⟩
  exact ⟨hb, by rw [dMulV_of hb, e, e2]; exact (newV_self h).2⟩
end Go.Proofs.Ytgicldokglpimaa
