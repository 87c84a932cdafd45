/- BaseB15: several of our texts in one: ZwM DwM DwM2 DwE SgM PhM DwO Bit. -/
import Derived.Test.YtckfklpgnneodaaGreatZwD
import Derived.Test.YtckfklpgnneodaaGreatRows
import Derived.Laws.StructEq
import Derived.Lib.SmallJoins
import Derived.OpenShut
import Derived.Test.YtckfklpgnneodaaGreatZwE
namespace Go.Proofs.YtckfklpgnneodaaGreat
theorem add_comm' (x y : Zw) : y.add x = x.add y := by
  simp only [Zw.add, Zw.mk.injEq]; omega
theorem mul_comm' (x y : Zw) : y.mul x = x.mul y := by
  simp only [Zw.mul, Zw.mk.injEq, Int.mul_comm y.a, Int.mul_comm y.b, Int.mul_comm y.c, Int.mul_comm y.d]; omega
theorem mulB_comm (x y : Zw) : mulB y x = mulB x y := by
  unfold mulB; rw [mul_comm']; rw [Bool.eq_iff_iff]; simp only [decide_eq_true_eq]; exact ⟨fun ⟨a, b, c⟩ => ⟨b, a, c⟩, fun ⟨a, b, c⟩ => ⟨b, a, c⟩⟩
theorem addB_iff {x y : Zw} : addB x y = true ↔ x.ok ∧ y.ok ∧ (x.add y).ok := by simp [addB]
theorem mulB_iff {x y : Zw} : mulB x y = true ↔ x.ok ∧ y.ok ∧ (x.mul y).ok := by simp [mulB]
theorem divB_iff {x : Zw} : divB x = true ↔ x.ok ∧ x.root.even := by simp [divB]
theorem addV_of {x y : Zw} (h : addB x y = true) : addV x y = x.add y := if_pos (addB_iff.1 h)
theorem mulV_of {x y : Zw} (h : mulB x y = true) : mulV x y = x.mul y := if_pos (mulB_iff.1 h)
theorem divV_of {x : Zw} (h : divB x = true) : divV x = x.root.half := if_pos (divB_iff.1 h)
theorem add_mul' (x y z : Zw) : (x.add y).mul z = (x.mul z).add (y.mul z) := by
  simp only [Zw.add, Zw.mul, Zw.mk.injEq, Int.add_mul]; omega
theorem spreads {x y z : Zw} (h1 : addB x y = true) (h2 : mulB x z = true) (h3 : mulB y z = true) (h4 : mulB (addV x y) z = true) (h5 : addB (mulV x z) (mulV y z) = true) :
    mulV (addV x y) z = addV (mulV x z) (mulV y z) := by
  rw [mulV_of h4, addV_of h5, mulV_of h2, mulV_of h3, addV_of h1, add_mul']
def rootE : Zw := ⟨0, 1, 0, -1⟩
theorem mul_rootE (y : Zw) : y.mul rootE = y.root := by
  simp only [rootE, Zw.mul, Zw.root, Zw.mk.injEq, Int.mul_zero, Int.mul_one, Int.mul_neg]; omega
theorem half_ok {x : Zw} (h : x.ok) (k : x.root.even) : x.root.half.ok := by rw [← thalf_half k]; exact thalf_ok h
theorem half_root {x : Zw} (k : x.root.even) : x.root.half.root = x := by rw [← thalf_half k]; exact thalf_root.2 k
theorem root_back {x : Zw} (h : mulB x rootE = true) : divB (mulV x rootE) = true ∧ divV (mulV x rootE) = x := by
  obtain ⟨_, _, hp⟩ := mulB_iff.1 h
  rw [mulV_of h]
  rw [mul_rootE] at hp ⊢
  have e : x.root.root.even ∧ x.root.root.half = x := by
    obtain ⟨a, b, c, d⟩ := x
    simp only [Zw.root, Zw.even, Zw.half, Zw.mk.injEq]
    omega
  have hb : divB x.root = true := divB_iff.2 ⟨hp, e.1⟩
  exact ⟨hb, by rw [divV_of hb, e.2]⟩
end Go.Proofs.YtckfklpgnneodaaGreat
namespace Go.Proofs.YtckfklpgnneodaaGreat
/-- x times the k-th power of the root of 2. -/
def rootN : Nat → Zw → Zw
  | 0, x => x
  | k + 1, x => rootN k x.root
theorem rootN_add (j k : Nat) (x : Zw) : rootN (j + k) x = rootN k (rootN j x) := by
  induction j generalizing x with
  | zero => rw [Nat.zero_add]; rfl
  | succ j ih => rw [Nat.succ_add]; exact ih x.root
theorem rootN_succ (k : Nat) (x : Zw) : rootN (k + 1) x = (rootN k x).root := rootN_add k 1 x
theorem root_inj {x y : Zw} (h : x.root = y.root) : x = y := by
  obtain ⟨a, b, c, d⟩ := x
  obtain ⟨e, f, g, i⟩ := y
  simp only [Zw.root, Zw.mk.injEq] at *
  omega
theorem rootN_inj {k : Nat} {x y : Zw} (h : rootN k x = rootN k y) : x = y := by
  induction k generalizing x y with
  | zero => exact h
  | succ k ih => exact root_inj (ih h)
theorem root_add (x y : Zw) : (x.add y).root = x.root.add y.root := by
  simp only [Zw.root, Zw.add, Zw.mk.injEq]; omega
theorem rootN_addZ (k : Nat) (x y : Zw) : rootN k (x.add y) = (rootN k x).add (rootN k y) := by
  induction k generalizing x y with
  | zero => rfl
  | succ k ih => show rootN k (x.add y).root = _; rw [root_add]; exact ih _ _
theorem root_mul (x y : Zw) : (x.mul y).root = x.root.mul y := by
  simp only [Zw.root, Zw.mul, Zw.mk.injEq, Int.sub_mul, Int.add_mul]; omega
theorem rootN_mul (k : Nat) (x y : Zw) : rootN k (x.mul y) = (rootN k x).mul y := by
  induction k generalizing x with
  | zero => rfl
  | succ k ih => show rootN k (x.mul y).root = _; rw [root_mul]; exact ih _
theorem rootN_mul2 (j k : Nat) (x y : Zw) : rootN (j + k) (x.mul y) = (rootN j x).mul (rootN k y) := by
  rw [rootN_add, rootN_mul, mul_comm' y (rootN j x), rootN_mul, mul_comm' (rootN j x) (rootN k y)]
/-- One fraction has the value of another. -/
def Same (n : Zw) (k : Nat) (m : Zw) (j : Nat) : Prop := rootN j n = rootN k m
theorem Same.symm {n m : Zw} {k j : Nat} (h : Same n k m j) : Same m j n k := Eq.symm h
theorem Same.trans {n m r : Zw} {k j i : Nat} (h : Same n k m j) (h2 : Same m j r i) : Same n k r i := by
  unfold Same at *
  apply rootN_inj (k := j)
  rw [← rootN_add, ← rootN_add, Nat.add_comm i j, Nat.add_comm k j, rootN_add j i, h, rootN_add j k, ← h2, ← rootN_add, ← rootN_add, Nat.add_comm]
theorem Same.up (n : Zw) (k i : Nat) : Same (rootN i n) (k + i) n k := by
  unfold Same; rw [← rootN_add, Nat.add_comm k i]
/-- A fraction: the numerator and the power of the root of 2 below it. -/
structure Dw where
  n : Zw
  e : Int
def Dw.zero : Dw := ⟨.zero, 0⟩
def Dw.ok (x : Dw) : Prop := x.n.ok ∧ 0 ≤ x.e ∧ x.e ≤ 60 ∧ (x.e = 0 ∨ divB x.n = false)
instance (x : Dw) : Decidable x.ok := inferInstanceAs (Decidable (_ ∧ _))
/-- Factors of the root cancel, k times at the most. -/
def red : Nat → Zw → Zw × Nat
  | 0, n => (n, 0)
  | k + 1, n => if divB n then red k (divV n) else (n, k + 1)
theorem divV_root {n : Zw} (h : divB n = true) : (divV n).root = n ∧ (divV n).ok := by
  rw [divV_of h]
  exact ⟨half_root (divB_iff.1 h).2, half_ok (divB_iff.1 h).1 (divB_iff.1 h).2⟩
theorem red_le (k : Nat) (n : Zw) : (red k n).2 ≤ k := by
  induction k generalizing n with
  | zero => exact Nat.le_refl _
  | succ k ih =>
    unfold red
    split
    · exact Nat.le_succ_of_le (ih _)
    · exact Nat.le_refl _
theorem red_same (k : Nat) (n : Zw) : rootN (k - (red k n).2) (red k n).1 = n := by
  induction k generalizing n with
  | zero => rfl
  | succ k ih =>
    unfold red
    split
    · rename_i h
      rw [show k + 1 - (red k (divV n)).2 = (k - (red k (divV n)).2) + 1 by have := red_le k (divV n); omega, rootN_succ, ih, (divV_root h).1]
    · simp [rootN]
theorem red_same' (k : Nat) (n : Zw) : Same (red k n).1 (red k n).2 n k := by
  have h := Same.up (red k n).1 (red k n).2 (k - (red k n).2)
  rw [red_same, show (red k n).2 + (k - (red k n).2) = k by have := red_le k n; omega] at h
  exact h.symm
theorem red_ok {k : Nat} {n : Zw} (h : n.ok) : (red k n).1.ok := by
  induction k generalizing n with
  | zero => exact h
  | succ k ih =>
    unfold red
    split
    · rename_i h1; exact ih (divV_root h1).2
    · exact h
theorem red_done (k : Nat) (n : Zw) : (red k n).2 = 0 ∨ divB (red k n).1 = false := by
  induction k generalizing n with
  | zero => exact .inl rfl
  | succ k ih =>
    unfold red
    split
    · exact ih _
    · rename_i h; exact .inr (by simpa using h)
/-- NewDOmega. -/
def newB (n : Zw) (k : Int) : Bool := decide (n.ok ∧ 0 ≤ k ∧ k ≤ 120 ∧ (red k.toNat n).2 ≤ 60)
def newV (n : Zw) (k : Int) : Dw := if newB n k then ⟨(red k.toNat n).1, (red k.toNat n).2⟩ else .zero
theorem newB_iff {n : Zw} {k : Int} : newB n k = true ↔ n.ok ∧ 0 ≤ k ∧ k ≤ 120 ∧ (red k.toNat n).2 ≤ 60 := by simp [newB]
theorem newV_of {n : Zw} {k : Int} (h : newB n k = true) : newV n k = ⟨(red k.toNat n).1, (red k.toNat n).2⟩ := if_pos h
theorem newV_ok {n : Zw} {k : Int} (h : newB n k = true) : (newV n k).ok := by
  rw [newV_of h]
  obtain ⟨h1, h2, h3, h4⟩ := newB_iff.1 h
  refine ⟨red_ok h1, Int.natCast_nonneg _, by show (((red k.toNat n).2 : Nat) : Int) ≤ 60; omega, ?_⟩
  rcases red_done k.toNat n with h | h
  · exact .inl (by show (((red k.toNat n).2 : Nat) : Int) = 0; omega)
  · exact .inr h
/-- Equal values have equal reduced representations. -/
theorem unique_aux {n m : Zw} {k j : Nat} (hn : n.ok) (_ : m.ok) (hk : k = 0 ∨ divB n = false) (h : Same n k m j) (hjk : j ≤ k) : n = m ∧ k = j := by
  by_cases e : k = j
  · subst e; exact ⟨rootN_inj h, rfl⟩
  · exfalso
    have hk0 : k = (k - j - 1) + 1 + j := by omega
    have h2 : n = (rootN (k - j - 1) m).root := by
      apply rootN_inj (k := j)
      unfold Same at h
      rw [h, ← rootN_succ, ← rootN_add, ← hk0]
    rcases hk with hk | hk
    · omega
    · have : divB n = true := by
        refine divB_iff.2 ⟨hn, ?_⟩
        rw [h2]
        generalize rootN (k - j - 1) m = z
        obtain ⟨a, b, c, d⟩ := z
        simp only [Zw.root, Zw.even]
        omega
      rw [this] at hk
      cases hk
theorem unique {x y : Dw} (hx : x.ok) (hy : y.ok) (h : Same x.n x.e.toNat y.n y.e.toNat) : x = y := by
  obtain ⟨h1, h2, h3, h4⟩ := hx
  obtain ⟨k1, k2, k3, k4⟩ := hy
  have hh : x.n = y.n ∧ x.e.toNat = y.e.toNat := by
    rcases Nat.le_total y.e.toNat x.e.toNat with hl | hl
    · exact unique_aux h1 k1 (h4.elim (fun e => .inl (by omega)) .inr) h hl
    · obtain ⟨a, b⟩ := unique_aux k1 h1 (k4.elim (fun e => .inl (by omega)) .inr) h.symm hl
      exact ⟨a.symm, b.symm⟩
  obtain ⟨n, e⟩ := x
  obtain ⟨m, f⟩ := y
  obtain ⟨rfl, hef⟩ := hh
  congr 1
  simp only [] at h2 k2 hef
  omega
theorem newV_same {n : Zw} {k : Int} (h : newB n k = true) : Same (newV n k).n (newV n k).e.toNat n k.toNat := by
  rw [newV_of h]
  simpa using red_same' k.toNat n
/-- A valid fraction is its own representation. -/
theorem newV_self {x : Dw} (h : x.ok) : newB x.n x.e = true ∧ newV x.n x.e = x := by
  obtain ⟨h1, h2, h3, h4⟩ := h
  have hr : red x.e.toNat x.n = (x.n, x.e.toNat) := by
    rcases h4 with h4 | h4
    · rw [h4]; rfl
    · cases hk : x.e.toNat with
      | zero => rfl
      | succ k => unfold red; rw [h4]; rfl
  have hb : newB x.n x.e = true := newB_iff.2 ⟨h1, h2, by omega, by rw [hr]; show x.e.toNat ≤ 60; omega⟩
  refine ⟨hb, ?_⟩
  rw [newV_of hb, hr]
  obtain ⟨n, e⟩ := x
  congr 1
  show ((e.toNat : Nat) : Int) = e
  exact Int.toNat_of_nonneg h2
end Go.Proofs.YtckfklpgnneodaaGreat
namespace Go.Proofs.YtckfklpgnneodaaGreat
theorem rootN_comm (j k : Nat) (x : Zw) : rootN j (rootN k x) = rootN k (rootN j x) := by
  rw [← rootN_add, ← rootN_add, Nat.add_comm]
/-- n is multiplied by the root k times within the limit. -/
def upB : Nat → Zw → Bool
  | 0, _ => true
  | k + 1, n => mulB n rootE && upB k n.root
def upV (k : Nat) (n : Zw) : Zw := if upB k n then rootN k n else .zero
theorem upV_of {k : Nat} {n : Zw} (h : upB k n = true) : upV k n = rootN k n := if_pos h
/-- The larger exponent. -/
def topE (x y : Dw) : Int := if y.e < x.e then x.e else y.e
theorem topE_le (x y : Dw) : x.e ≤ topE x y ∧ y.e ≤ topE x y ∧ (topE x y = x.e ∨ topE x y = y.e) := by unfold topE; split <;> omega
/-- The two numerators over the larger exponent. -/
def numA (x y : Dw) : Zw := rootN (topE x y - x.e).toNat x.n
def numB (x y : Dw) : Zw := rootN (topE x y - y.e).toNat y.n
def dAddB (x y : Dw) : Bool := decide (x.ok ∧ y.ok) && upB (topE x y - x.e).toNat x.n && upB (topE x y - y.e).toNat y.n && addB (numA x y) (numB x y) && newB ((numA x y).add (numB x y)) (topE x y)
def dAddV (x y : Dw) : Dw := if dAddB x y then newV ((numA x y).add (numB x y)) (topE x y) else .zero
def dMulB (x y : Dw) : Bool := decide (x.ok ∧ y.ok) && mulB x.n y.n && newB (x.n.mul y.n) (x.e + y.e)
def dMulV (x y : Dw) : Dw := if dMulB x y then newV (x.n.mul y.n) (x.e + y.e) else .zero
def Dw.neg (x : Dw) : Dw := ⟨x.n.neg, x.e⟩
def dNegV (x : Dw) : Dw := if x.ok then x.neg else .zero
def oneD : Dw := ⟨⟨1, 0, 0, 0⟩, 0⟩
theorem dAddB_iff {x y : Dw} : dAddB x y = true ↔ x.ok ∧ y.ok ∧ upB (topE x y - x.e).toNat x.n = true ∧ upB (topE x y - y.e).toNat y.n = true ∧ addB (numA x y) (numB x y) = true ∧ newB ((numA x y).add (numB x y)) (topE x y) = true := by
  simp [dAddB, and_assoc]
theorem dMulB_iff {x y : Dw} : dMulB x y = true ↔ x.ok ∧ y.ok ∧ mulB x.n y.n = true ∧ newB (x.n.mul y.n) (x.e + y.e) = true := by
  simp [dMulB, and_assoc]
theorem dAddV_of {x y : Dw} (h : dAddB x y = true) : dAddV x y = newV ((numA x y).add (numB x y)) (topE x y) := if_pos h
theorem dAddV_no {x y : Dw} (h : dAddB x y = false) : dAddV x y = .zero := if_neg (by simp [h])
theorem dMulV_of {x y : Dw} (h : dMulB x y = true) : dMulV x y = newV (x.n.mul y.n) (x.e + y.e) := if_pos h
theorem dMulV_no {x y : Dw} (h : dMulB x y = false) : dMulV x y = .zero := if_neg (by simp [h])
theorem dAddV_ok {x y : Dw} (h : dAddB x y = true) : (dAddV x y).ok := by rw [dAddV_of h]; exact newV_ok (dAddB_iff.1 h).2.2.2.2.2
theorem dMulV_ok {x y : Dw} (h : dMulB x y = true) : (dMulV x y).ok := by rw [dMulV_of h]; exact newV_ok (dMulB_iff.1 h).2.2.2
theorem dMulB_comm (x y : Dw) : dMulB y x = dMulB x y := by
  rw [Bool.eq_iff_iff, dMulB_iff, dMulB_iff, mul_comm' x.n y.n, mulB_comm x.n y.n, Int.add_comm y.e x.e]
  exact ⟨fun ⟨a, b, c⟩ => ⟨b, a, c⟩, fun ⟨a, b, c⟩ => ⟨b, a, c⟩⟩
theorem dMulV_comm (x y : Dw) : dMulV y x = dMulV x y := by
  unfold dMulV; rw [dMulB_comm x y, mul_comm' x.n y.n, Int.add_comm y.e x.e]
/-- s has the value of x + y; p that of x * y. -/
def Adds (s x y : Dw) : Prop := rootN (x.e.toNat + y.e.toNat) s.n = rootN s.e.toNat ((rootN y.e.toNat x.n).add (rootN x.e.toNat y.n))
def Muls (p x y : Dw) : Prop := rootN (x.e.toNat + y.e.toNat) p.n = rootN p.e.toNat (x.n.mul y.n)
theorem adds_of {x y : Dw} (h : dAddB x y = true) : Adds (dAddV x y) x y := by
  obtain ⟨hx, hy, _, _, _, hn⟩ := dAddB_iff.1 h
  have hs := newV_same hn
  rw [← dAddV_of h] at hs
  unfold Same at hs
  have hx0 := hx.2.1
  have hy0 := hy.2.1
  have ht := topE_le x y
  generalize hT : topE x y = T at *
  have hA : numA x y = rootN (T.toNat - x.e.toNat) x.n := by unfold numA; rw [hT]; congr 1; omega
  have hB : numB x y = rootN (T.toNat - y.e.toNat) y.n := by unfold numB; rw [hT]; congr 1; omega
  rw [hA, hB] at hs
  unfold Adds
  apply rootN_inj (k := T.toNat)
  rw [rootN_comm, hs, rootN_comm (x.e.toNat + y.e.toNat), rootN_comm T.toNat]
  congr 1
  rw [rootN_addZ, rootN_addZ, ← rootN_add, ← rootN_add, ← rootN_add, ← rootN_add]
  congr 1 <;> congr 1 <;> omega
theorem muls_of {x y : Dw} (h : dMulB x y = true) : Muls (dMulV x y) x y := by
  obtain ⟨hx, hy, _, hn⟩ := dMulB_iff.1 h
  have hs := newV_same hn
  rw [← dMulV_of h] at hs
  unfold Same at hs
  have hx0 := hx.2.1
  have hy0 := hy.2.1
  unfold Muls
  rw [show x.e.toNat + y.e.toNat = (x.e + y.e).toNat by omega, hs]
theorem mul_one' (n : Zw) : n.mul ⟨1, 0, 0, 0⟩ = n := by
  cases n; simp [Zw.mul]
theorem oneD_ok : oneD.ok := by decide
end Go.Proofs.YtckfklpgnneodaaGreat
namespace Go.Proofs.YtckfklpgnneodaaGreat
open Go.RowKit
theorem dw_ext {x y : Dw} (h0 : x.n.a = y.n.a) (h1 : x.n.b = y.n.b) (h2 : x.n.c = y.n.c) (h3 : x.n.d = y.n.d) (h4 : x.e = y.e) : x = y := by
  obtain ⟨⟨a, b, c, d⟩, e⟩ := x
  obtain ⟨⟨p, q, r, s⟩, t⟩ := y
  simp only [] at h0 h1 h2 h3 h4
  subst h0 h1 h2 h3 h4
  rfl
/-- Two fractions are the same, field by field. -/
def eqDB (x y : Dw) : Bool := x.n.a == y.n.a && (x.n.b == y.n.b && (x.n.c == y.n.c && (x.n.d == y.n.d && x.e == y.e)))
theorem eqDB_iff {x y : Dw} : eqDB x y = true ↔ x = y := by
  simp only [eqDB, Bool.and_eq_true, beq_iff_eq]
  exact ⟨fun ⟨h0, h1, h2, h3, h4⟩ => dw_ext h0 h1 h2 h3 h4, fun h => by subst h; exact ⟨rfl, rfl, rfl, rfl, rfl⟩⟩
theorem eqDB_no {x y : Dw} (h : x ≠ y) : eqDB x y = false := by
  rw [Bool.eq_false_iff]; exact fun k => h (eqDB_iff.1 k)
theorem ite5 (p q r s t : Prop) [Decidable p] [Decidable q] [Decidable r] [Decidable s] [Decidable t] (w : World) :
    (if p then if q then if r then if s then if t then Result.ok (Value.bool true) w else Result.ok (Value.bool false) w else Result.ok (Value.bool false) w else Result.ok (Value.bool false) w else Result.ok (Value.bool false) w else Result.ok (Value.bool false) w) =
    Result.ok (Value.bool (decide p && (decide q && (decide r && (decide s && decide t))))) w := by
  by_cases p <;> by_cases q <;> by_cases r <;> by_cases s <;> by_cases t <;> simp [*]
set_option maxRecDepth 100000 in
set_option maxHeartbeats 1600000 in
theorem eqD (x y : Dw) (w : World) : (binOp .eql 83 (.agg #[.int .i64 x.n.a, .int .i64 x.n.b, .int .i64 x.n.c, .int .i64 x.n.d, .int .i64 x.e]) (.agg #[.int .i64 y.n.a, .int .i64 y.n.b, .int .i64 y.n.c, .int .i64 y.n.d, .int .i64 y.e])).run Tryz.prog w = .ok (.bool (eqDB x y)) w := by
  rw [run_eql_struct, run_equalIn_struct _ 9999 _ _ _ (by kernel_rfl) (by kernel_rfl)]
  simp [go_sem]
  rw [ite5]
  rfl
set_option maxRecDepth 100000 in
set_option maxHeartbeats 1600000 in
theorem neD (x y : Dw) (w : World) : (binOp .neq 83 (.agg #[.int .i64 x.n.a, .int .i64 x.n.b, .int .i64 x.n.c, .int .i64 x.n.d, .int .i64 x.e]) (.agg #[.int .i64 y.n.a, .int .i64 y.n.b, .int .i64 y.n.c, .int .i64 y.n.d, .int .i64 y.e])).run Tryz.prog w = .ok (.bool (!eqDB x y)) w := by
  rw [run_neq_struct]
  have h := eqD x y w
  rw [run_eql_struct] at h
  generalize (Op.equalIn 10000 83 (.agg #[.int .i64 x.n.a, .int .i64 x.n.b, .int .i64 x.n.c, .int .i64 x.n.d, .int .i64 x.e]) (.agg #[.int .i64 y.n.a, .int .i64 y.n.b, .int .i64 y.n.c, .int .i64 y.n.d, .int .i64 y.e])).run Tryz.prog w = r at *
  cases r with
  | ok b w1 => simp only [Result.andThen_ok, Result.ok.injEq, Value.bool.injEq] at h ⊢; exact ⟨by rw [h.1], h.2⟩
  | halt a w1 => simp [Result.andThen] at h
end Go.Proofs.YtckfklpgnneodaaGreat
namespace Go.Proofs.YtckfklpgnneodaaGreat
theorem mm4 (a b c d : Int) : a * b * (c * d) = a * c * (b * d) := by rw [Int.mul_assoc, Int.mul_left_comm b c d, ← Int.mul_assoc]
theorem sq_neg (a : Int) : (-a) * (-a) = a * a := Int.neg_mul_neg a a
theorem sq_nn (a : Int) : 0 ≤ a * a := by
  rcases Int.le_total 0 a with h | h
  · exact Int.mul_nonneg h h
  · rw [← sq_neg]; exact Int.mul_nonneg (by omega) (by omega)
theorem sq_le {a b : Int} (ha : 0 ≤ a) (h : a ≤ b) : a * a ≤ b * b := Int.mul_le_mul h h ha (Int.le_trans ha h)
theorem sq_lt {a b : Int} (ha : 0 ≤ a) (h : a < b) : a * a < b * b :=
  Int.lt_of_le_of_lt (Int.mul_le_mul_of_nonneg_left (Int.le_of_lt h) ha) (Int.mul_lt_mul_of_pos_right h (by omega))
theorem le_of_sq {a b : Int} (hb : 0 ≤ b) (h : a * a ≤ b * b) : a ≤ b := by
  rcases (show b < a ∨ a ≤ b by omega) with k | k
  · have := sq_lt hb k; omega
  · exact k
/-- u + v times the root of 2 is positive. -/
def Pos (u v : Int) : Prop := (0 ≤ u ∧ 0 ≤ v ∧ (u ≠ 0 ∨ v ≠ 0)) ∨ (0 < u ∧ v < 0 ∧ 2 * (v * v) < u * u) ∨ (u < 0 ∧ 0 < v ∧ u * u < 2 * (v * v))
/-- Products of roots: x below y root 2 and z below w root 2. -/
theorem cross_le {x y z w : Int} (hy : 0 ≤ y) (_ : 0 ≤ z) (hw : 0 ≤ w) (h1 : x * x ≤ 2 * (y * y)) (h2 : z * z ≤ 2 * (w * w)) : x * z ≤ 2 * (y * w) := by
  have hyw := Int.mul_nonneg hy hw
  apply le_of_sq (by omega)
  have e1 : x * z * (x * z) = (x * x) * (z * z) := mm4 x z x z
  have e2 : 2 * (y * w) * (2 * (y * w)) = (2 * (y * y)) * (2 * (w * w)) := by
    rw [mm4 2 (y * w) 2 (y * w), mm4 y w y w, mm4 2 (y * y) 2 (w * w)]
  rw [e1, e2]
  exact Int.mul_le_mul h1 h2 (sq_nn z) (by have := sq_nn y; omega)
theorem sum_sq (x z : Int) : (x + z) * (x + z) = x * x + 2 * (x * z) + z * z := by
  rw [Int.add_mul, Int.mul_add, Int.mul_add, Int.mul_comm z x]; omega
theorem below_sum {x y z w : Int} (hy : 0 ≤ y) (hz : 0 ≤ z) (hw : 0 ≤ w) (h1 : x * x ≤ 2 * (y * y)) (h2 : z * z < 2 * (w * w)) : (x + z) * (x + z) < 2 * ((y + w) * (y + w)) := by
  have := cross_le hy hz hw h1 (Int.le_of_lt h2)
  rw [sum_sq, sum_sq]; omega
theorem cross_ge {x y z w : Int} (hx : 0 ≤ x) (_ : 0 ≤ y) (hz : 0 ≤ z) (_ : 0 ≤ w) (h1 : 2 * (y * y) ≤ x * x) (h2 : 2 * (w * w) ≤ z * z) : 2 * (y * w) ≤ x * z := by
  apply le_of_sq (Int.mul_nonneg hx hz)
  have e1 : x * z * (x * z) = (x * x) * (z * z) := mm4 x z x z
  have e2 : 2 * (y * w) * (2 * (y * w)) = (2 * (y * y)) * (2 * (w * w)) := by
    rw [mm4 2 (y * w) 2 (y * w), mm4 y w y w, mm4 2 (y * y) 2 (w * w)]
  rw [e1, e2]
  exact Int.mul_le_mul h1 h2 (by have := sq_nn w; omega) (sq_nn x)
theorem above_sum {x y z w : Int} (hx : 0 ≤ x) (hy : 0 ≤ y) (hz : 0 ≤ z) (hw : 0 ≤ w) (h1 : 2 * (y * y) ≤ x * x) (h2 : 2 * (w * w) < z * z) : 2 * ((y + w) * (y + w)) < (x + z) * (x + z) := by
  have := cross_ge hx hy hz hw h1 (Int.le_of_lt h2)
  rw [sum_sq, sum_sq]; omega
theorem Pos.mix {p q r s : Int} (hp : 0 < p) (hq : 0 < q) (hr : 0 < r) (hs : 0 < s) (h1 : 2 * (q * q) < p * p) (h2 : r * r < 2 * (s * s)) : Pos (p - r) (s - q) := by
  have hd1 : (r - p) * (r - p) = (p - r) * (p - r) := by rw [← sq_neg]; congr 1 <;> omega
  have hd2 : (q - s) * (q - s) = (s - q) * (s - q) := by rw [← sq_neg]; congr 1 <;> omega
  rcases (show p - r ≤ 0 ∧ s - q ≤ 0 ∨ (0 ≤ p - r ∧ 0 ≤ s - q ∧ (p - r ≠ 0 ∨ s - q ≠ 0)) ∨ (0 < p - r ∧ s - q < 0) ∨ (p - r < 0 ∧ 0 < s - q) by omega) with ⟨a, b⟩ | h | ⟨a, b⟩ | ⟨a, b⟩
  · exfalso
    have e1 := sq_le (Int.le_of_lt hp) (show p ≤ r by omega)
    have e2 := sq_le (Int.le_of_lt hs) (show s ≤ q by omega)
    omega
  · exact .inl h
  · refine .inr (.inl ⟨a, b, ?_⟩)
    rcases (show 2 * ((s - q) * (s - q)) < (p - r) * (p - r) ∨ (p - r) * (p - r) ≤ 2 * ((s - q) * (s - q)) by omega) with k | k
    · exact k
    · exfalso
      have := below_sum (x := p - r) (y := q - s) (z := r) (w := s) (by omega) (by omega) (by omega) (by rw [hd2]; exact k) h2
      rw [show p - r + r = p by omega, show q - s + s = q by omega] at this
      omega
  · refine .inr (.inr ⟨a, b, ?_⟩)
    rcases (show (p - r) * (p - r) < 2 * ((s - q) * (s - q)) ∨ 2 * ((s - q) * (s - q)) ≤ (p - r) * (p - r) by omega) with k | k
    · exact k
    · exfalso
      have := above_sum (x := r - p) (y := s - q) (z := p) (w := q) (by omega) (by omega) (by omega) (by omega) (by rw [hd1]; exact k) h1
      rw [show r - p + p = r by omega, show s - q + q = s by omega] at this
      omega
/-- The sum of positive numbers is positive. -/
theorem Pos.add {u v x y : Int} (h : Pos u v) (k : Pos x y) : Pos (u + x) (v + y) := by
  rcases h with ⟨h1, h2, h3⟩ | ⟨h1, h2, h3⟩ | ⟨h1, h2, h3⟩
  · rcases k with ⟨k1, k2, k3⟩ | ⟨k1, k2, k3⟩ | ⟨k1, k2, k3⟩
    · exact .inl (by omega)
    · by_cases hv : 0 ≤ v + y
      · exact .inl (by omega)
      · refine .inr (.inl ⟨by omega, by omega, ?_⟩)
        have e1 := sq_le (a := -(v + y)) (b := -y) (by omega) (by omega)
        have e2 := sq_le (a := x) (b := u + x) (by omega) (by omega)
        rw [sq_neg, sq_neg] at e1
        omega
    · by_cases hv : 0 ≤ u + x
      · exact .inl (by omega)
      · refine .inr (.inr ⟨by omega, by omega, ?_⟩)
        have e1 := sq_le (a := -(u + x)) (b := -x) (by omega) (by omega)
        have e2 := sq_le (a := y) (b := v + y) (by omega) (by omega)
        rw [sq_neg, sq_neg] at e1
        omega
  · rcases k with ⟨k1, k2, k3⟩ | ⟨k1, k2, k3⟩ | ⟨k1, k2, k3⟩
    · by_cases hv : 0 ≤ v + y
      · exact .inl (by omega)
      · refine .inr (.inl ⟨by omega, by omega, ?_⟩)
        have e1 := sq_le (a := -(v + y)) (b := -v) (by omega) (by omega)
        have e2 := sq_le (a := u) (b := u + x) (by omega) (by omega)
        rw [sq_neg, sq_neg] at e1
        omega
    · refine .inr (.inl ⟨by omega, by omega, ?_⟩)
      have := above_sum (x := u) (y := -v) (z := x) (w := -y) (by omega) (by omega) (by omega) (by omega) (by rw [sq_neg]; omega) (by rw [sq_neg]; omega)
      rw [show -v + -y = -(v + y) by omega, sq_neg] at this
      exact this
    · have := Pos.mix (p := u) (q := -v) (r := -x) (s := y) h1 (by omega) (by omega) k2 (by rw [sq_neg]; exact h3) (by rw [sq_neg]; exact k3)
      rw [show u - -x = u + x by omega, show y - -v = v + y by omega] at this
      exact this
  · rcases k with ⟨k1, k2, k3⟩ | ⟨k1, k2, k3⟩ | ⟨k1, k2, k3⟩
    · by_cases hv : 0 ≤ u + x
      · exact .inl (by omega)
      · refine .inr (.inr ⟨by omega, by omega, ?_⟩)
        have e1 := sq_le (a := -(u + x)) (b := -u) (by omega) (by omega)
        have e2 := sq_le (a := v) (b := v + y) (by omega) (by omega)
        rw [sq_neg, sq_neg] at e1
        omega
    · have := Pos.mix (p := x) (q := -y) (r := -u) (s := v) k1 (by omega) (by omega) h2 (by rw [sq_neg]; exact k3) (by rw [sq_neg]; exact h3)
      rw [show x - -u = u + x by omega, show v - -y = v + y by omega] at this
      exact this
    · refine .inr (.inr ⟨by omega, by omega, ?_⟩)
      have := below_sum (x := -u) (y := v) (z := -x) (w := y) (by omega) (by omega) (by omega) (by rw [sq_neg]; omega) (by rw [sq_neg]; exact k3)
      rw [show -u + -x = -(u + x) by omega, sq_neg] at this
      exact this
end Go.Proofs.YtckfklpgnneodaaGreat
namespace Go.Proofs.YtckfklpgnneodaaGreat
/-- Powers of omega. -/
def phL : List Zw := [⟨1, 0, 0, 0⟩, ⟨0, 1, 0, 0⟩, ⟨0, 0, 1, 0⟩, ⟨0, 0, 0, 1⟩, ⟨-1, 0, 0, 0⟩, ⟨0, -1, 0, 0⟩, ⟨0, 0, -1, 0⟩, ⟨0, 0, 0, -1⟩]
def phN (n : Nat) : Zw := phL.getD n .zero
def dPh (i : Int) : Dw := ⟨phN (i % 8).toNat, 0⟩
instance : DecidableEq Zw := fun x y => decidable_of_iff (x.a = y.a ∧ x.b = y.b ∧ x.c = y.c ∧ x.d = y.d) ⟨fun ⟨h1, h2, h3, h4⟩ => by cases x; cases y; simp_all, fun h => by subst h; exact ⟨rfl, rfl, rfl, rfl⟩⟩
theorem phN_ok (n : Nat) (h : n < 8) : (phN n).ok := by
  rcases (show n = 0 ∨ n = 1 ∨ n = 2 ∨ n = 3 ∨ n = 4 ∨ n = 5 ∨ n = 6 ∨ n = 7 by omega) with rfl | rfl | rfl | rfl | rfl | rfl | rfl | rfl <;> decide
theorem res8 (i : Int) : (i % 8).toNat < 8 := by omega
theorem dPh_ok (i : Int) : (dPh i).ok := ⟨phN_ok _ (res8 i), Int.le_refl _, (by decide : (0 : Int) ≤ 60), .inl rfl⟩
end Go.Proofs.YtckfklpgnneodaaGreat
namespace Go.Proofs.YtckfklpgnneodaaGreat
open Go.ChangeShapes Go.WideShapes Go.ChangeAt Go.RowKit Go.Lib Go.Joins
end Go.Proofs.YtckfklpgnneodaaGreat
namespace Go.Proofs.YtckfklpgnneodaaGreat
open Go.RowKit
attribute [local irreducible] World.cell?
set_option maxRecDepth 100000 in
set_option maxHeartbeats 800000 in
theorem ibitOf (i q : Nat) (w : World) (hq : q < 63) :
    Calls Tryz.prog 128 #[.int .i64 (i : Int), .int .i64 (q : Int)] w fun e w' => e = .returned (.int .i64 (bits .and .i64 ((i : Int) / 2 ^ q) 1)) ∧ w = w' := by
  go_enter Tryz.func128, Tryz.ntmps128
  go_wp2_with fail
  go_ret
  exact ⟨rfl, rfl⟩
end Go.Proofs.YtckfklpgnneodaaGreat
