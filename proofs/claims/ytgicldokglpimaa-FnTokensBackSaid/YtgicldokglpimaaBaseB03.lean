/- BaseB03: several of our texts in one: ZwA ZwD ZwE ZwM DwM. -/
import Derived.Test.YtgicldokglpimaaBaseB02
import Derived.Laws.StructEq
import Derived.Deep.RegionHeld3
namespace Go.Proofs.Ytgicldokglpimaa
open Go.RowKit
attribute [local irreducible] World.cell?
theorem below_up {B : Nat} {w w1 w2 : World} (h1 : Below B w w1) (h2 : Below w1.heap.size w1 w2) (hB : B ≤ w1.heap.size) : Below B w w2 := h1.trans (h2.mono hB)
end Go.Proofs.Ytgicldokglpimaa
namespace Go.Proofs.Ytgicldokglpimaa
open Go.RowKit
attribute [local irreducible] World.cell?
/-! Plain numbers. -/
theorem tdiv2 (r : Int) : 2 * r.tdiv 2 + r.tmod 2 = r ∧ -1 ≤ r.tmod 2 ∧ r.tmod 2 ≤ 1 := by
  have h := Int.mul_tdiv_add_tmod r 2
  have h1 := Int.tmod_lt_of_pos r (show (0 : Int) < 2 by omega)
  have h2 := Int.lt_tmod_of_pos r (show (0 : Int) < 2 by omega)
  omega
theorem tmod2 (r : Int) : r.tmod 2 = 0 ↔ r % 2 = 0 := by
  have h := tdiv2 r
  omega
def Zw.thalf (x : Zw) : Zw := ⟨x.a.tdiv 2, x.b.tdiv 2, x.c.tdiv 2, x.d.tdiv 2⟩
theorem thalf_root {x : Zw} : x.root.thalf.root = x ↔ x.root.even := by
  obtain ⟨a, b, c, d⟩ := x
  have h1 := tdiv2 (b - d)
  have h2 := tdiv2 (a + c)
  have h3 := tdiv2 (b + d)
  have h4 := tdiv2 (c - a)
  simp only [Zw.root, Zw.thalf, Zw.even, Zw.mk.injEq]
  omega
theorem thalf_half {x : Zw} (h : x.even) : x.thalf = x.half := by
  obtain ⟨a, b, c, d⟩ := x
  have h1 := tdiv2 a
  have h2 := tdiv2 b
  have h3 := tdiv2 c
  have h4 := tdiv2 d
  simp only [Zw.thalf, Zw.even, Zw.half, Zw.mk.injEq] at *
  omega
theorem thalf_ok {x : Zw} (h : x.ok) : x.root.thalf.ok := by
  obtain ⟨a, b, c, d⟩ := x
  have h1 := tdiv2 (b - d)
  have h2 := tdiv2 (a + c)
  have h3 := tdiv2 (b + d)
  have h4 := tdiv2 (c - a)
  simp only [Zw.root, Zw.thalf, Zw.ok, Near] at *
  omega
/-- Two arrays of four integers are compared. -/
theorem size3 (w : World) : (sizeOf 3).run Try.prog w = .ok 1 w := by kernel_rfl
end Go.Proofs.Ytgicldokglpimaa
namespace Go.Proofs.Ytgicldokglpimaa
open Go.RowKit
attribute [local irreducible] World.cell?
end Go.Proofs.Ytgicldokglpimaa
namespace Go.Proofs.Ytgicldokglpimaa
theorem near_neg {n : Int} : Near (-n) ↔ Near n := by unfold Near; omega
theorem add_comm' (x y : Zw) : y.add x = x.add y := by
  simp only [Zw.add, Zw.mk.injEq]; omega
theorem mul_comm' (x y : Zw) : y.mul x = x.mul y := by
  simp only [Zw.mul, Zw.mk.injEq, Int.mul_comm y.a, Int.mul_comm y.b, Int.mul_comm y.c, Int.mul_comm y.d]; omega
theorem addB_comm (x y : Zw) : addB y x = addB x y := by
  unfold addB; rw [add_comm']; rw [Bool.eq_iff_iff]; simp only [decide_eq_true_eq]; exact ⟨fun ⟨a, b, c⟩ => ⟨b, a, c⟩, fun ⟨a, b, c⟩ => ⟨b, a, c⟩⟩
theorem mulB_comm (x y : Zw) : mulB y x = mulB x y := by
  unfold mulB; rw [mul_comm']; rw [Bool.eq_iff_iff]; simp only [decide_eq_true_eq]; exact ⟨fun ⟨a, b, c⟩ => ⟨b, a, c⟩, fun ⟨a, b, c⟩ => ⟨b, a, c⟩⟩
theorem addB_iff {x y : Zw} : addB x y = true ↔ x.ok ∧ y.ok ∧ (x.add y).ok := by simp [addB]
theorem mulB_iff {x y : Zw} : mulB x y = true ↔ x.ok ∧ y.ok ∧ (x.mul y).ok := by simp [mulB]
theorem divB_iff {x : Zw} : divB x = true ↔ x.ok ∧ x.root.even := by simp [divB]
theorem addV_of {x y : Zw} (h : addB x y = true) : addV x y = x.add y := if_pos (addB_iff.1 h)
theorem addV_no {x y : Zw} (h : addB x y = false) : addV x y = .zero := if_neg (by simpa [addB] using h)
theorem mulV_of {x y : Zw} (h : mulB x y = true) : mulV x y = x.mul y := if_pos (mulB_iff.1 h)
theorem divV_of {x : Zw} (h : divB x = true) : divV x = x.root.half := if_pos (divB_iff.1 h)
theorem addV_comm (x y : Zw) : addV y x = addV x y := by
  cases h : addB x y
  · rw [addV_no h, addV_no ((addB_comm x y).trans h)]
  · rw [addV_of h, addV_of ((addB_comm x y).trans h), add_comm']
theorem mulV_comm (x y : Zw) : mulV y x = mulV x y := by
  cases h : mulB x y
  · rw [show mulV x y = .zero from if_neg (by simpa [mulB] using h), show mulV y x = .zero from if_neg (by simpa [mulB] using (mulB_comm x y).trans h)]
  · rw [mulV_of h, mulV_of ((mulB_comm x y).trans h), mul_comm']
theorem neg_ok {x : Zw} : x.neg.ok ↔ x.ok := by simp only [Zw.neg, Zw.ok, near_neg]
theorem conj_ok {x : Zw} : x.conj.ok ↔ x.ok := by
  simp only [Zw.conj, Zw.ok, near_neg]; exact ⟨fun ⟨a, b, c, d⟩ => ⟨a, d, c, b⟩, fun ⟨a, b, c, d⟩ => ⟨a, d, c, b⟩⟩
theorem bar_ok {x : Zw} : x.bar.ok ↔ x.ok := by simp only [Zw.bar, Zw.ok, near_neg]
theorem addV_ok {x y : Zw} (h : addB x y = true) : (addV x y).ok := by rw [addV_of h]; exact (addB_iff.1 h).2.2
/-- The sum less y is x. -/
theorem add_back {x y : Zw} (h : addB x y = true) : addB (addV x y) (negV y) = true ∧ addV (addV x y) (negV y) = x := by
  obtain ⟨hx, hy, hs⟩ := addB_iff.1 h
  have e : (x.add y).add y.neg = x := by cases x; cases y; simp only [Zw.add, Zw.neg, Zw.mk.injEq]; omega
  have en : negV y = y.neg := if_pos hy
  have hb : addB (x.add y) y.neg = true := addB_iff.2 ⟨hs, neg_ok.2 hy, by rw [e]; exact hx⟩
  rw [en, addV_of h]
  exact ⟨hb, by rw [addV_of hb, e]⟩
theorem conj_mul (x y : Zw) : x.conj.mul y.conj = (x.mul y).conj := by
  simp only [Zw.conj, Zw.mul, Zw.mk.injEq, Int.mul_neg, Int.neg_mul]; omega
theorem bar_mul (x y : Zw) : x.bar.mul y.bar = (x.mul y).bar := by
  simp only [Zw.bar, Zw.mul, Zw.mk.injEq, Int.mul_neg, Int.neg_mul]; omega
theorem conj_hom {x y : Zw} (h : mulB x y = true) : mulB (conjV x) (conjV y) = true ∧ mulV (conjV x) (conjV y) = conjV (mulV x y) := by
  obtain ⟨hx, hy, hp⟩ := mulB_iff.1 h
  rw [mulV_of h, show conjV x = x.conj from if_pos hx, show conjV y = y.conj from if_pos hy, show conjV (x.mul y) = (x.mul y).conj from if_pos hp]
  have hb : mulB x.conj y.conj = true := mulB_iff.2 ⟨conj_ok.2 hx, conj_ok.2 hy, by rw [conj_mul]; exact conj_ok.2 hp⟩
  exact ⟨hb, by rw [mulV_of hb, conj_mul]⟩
theorem bar_hom {x y : Zw} (h : mulB x y = true) : mulB (barV x) (barV y) = true ∧ mulV (barV x) (barV y) = barV (mulV x y) := by
  obtain ⟨hx, hy, hp⟩ := mulB_iff.1 h
  rw [mulV_of h, show barV x = x.bar from if_pos hx, show barV y = y.bar from if_pos hy, show barV (x.mul y) = (x.mul y).bar from if_pos hp]
  have hb : mulB x.bar y.bar = true := mulB_iff.2 ⟨bar_ok.2 hx, bar_ok.2 hy, by rw [bar_mul]; exact bar_ok.2 hp⟩
  exact ⟨hb, by rw [mulV_of hb, bar_mul]⟩
theorem conj_conj {x : Zw} (h : x.ok) : conjV (conjV x) = x := by
  rw [show conjV x = x.conj from if_pos h, show conjV x.conj = x.conj.conj from if_pos (conj_ok.2 h)]
  cases x; simp [Zw.conj]
theorem bar_bar {x : Zw} (h : x.ok) : barV (barV x) = x := by
  rw [show barV x = x.bar from if_pos h, show barV x.bar = x.bar.bar from if_pos (bar_ok.2 h)]
  cases x; simp [Zw.bar]
theorem add_mul' (x y z : Zw) : (x.add y).mul z = (x.mul z).add (y.mul z) := by
  simp only [Zw.add, Zw.mul, Zw.mk.injEq, Int.add_mul]; omega
theorem spreads {x y z : Zw} (h1 : addB x y = true) (h2 : mulB x z = true) (h3 : mulB y z = true) (h4 : mulB (addV x y) z = true) (h5 : addB (mulV x z) (mulV y z) = true) :
    mulV (addV x y) z = addV (mulV x z) (mulV y z) := by
  rw [mulV_of h4, addV_of h5, mulV_of h2, mulV_of h3, addV_of h1, add_mul']
def rootE : Zw := ⟨0, 1, 0, -1⟩
theorem rootE_ok : rootE.ok := by decide
theorem mul_rootE (y : Zw) : y.mul rootE = y.root := by
  simp only [rootE, Zw.mul, Zw.root, Zw.mk.injEq, Int.mul_zero, Int.mul_one, Int.mul_neg]; omega
theorem half_ok {x : Zw} (h : x.ok) (k : x.root.even) : x.root.half.ok := by rw [← thalf_half k]; exact thalf_ok h
theorem half_root {x : Zw} (k : x.root.even) : x.root.half.root = x := by rw [← thalf_half k]; exact thalf_root.2 k
theorem div_back {x : Zw} (h : divB x = true) : mulB (divV x) rootE = true ∧ mulV (divV x) rootE = x := by
  obtain ⟨hx, hk⟩ := divB_iff.1 h
  have e : (x.root.half).mul rootE = x := by rw [mul_rootE, half_root hk]
  have hb : mulB x.root.half rootE = true := mulB_iff.2 ⟨half_ok hx hk, rootE_ok, by rw [e]; exact hx⟩
  rw [divV_of h]
  exact ⟨hb, by rw [mulV_of hb, e]⟩
theorem root_back {x : Zw} (h : mulB x rootE = true) : divB (mulV x rootE) = true ∧ divV (mulV x rootE) = x := by
  obtain ⟨_, _, hp⟩ := mulB_iff.1 h
  rw [mulV_of h]
  rw [mul_rootE] at hp ⊢
  have e : x.root.root.even ∧ x.root.root.half = x := by
    obtain ⟨a, b, c, d⟩ := x
    simp only [Zw.root, Zw.even, Zw.half, Zw.mk.injEq]
    omega
  have hb : divB x.root = true := divB_iff.2 ⟨hp, e.1⟩
  exact ⟨hb, by rw [divV_of hb, e.2]⟩
end Go.Proofs.Ytgicldokglpimaa
namespace Go.Proofs.Ytgicldokglpimaa
/-- x times the k-th power of the root of 2. -/
def rootN : Nat → Zw → Zw
  | 0, x => x
  | k + 1, x => rootN k x.root
theorem rootN_add (j k : Nat) (x : Zw) : rootN (j + k) x = rootN k (rootN j x) := by
  induction j generalizing x with
  | zero => rw [Nat.zero_add]; rfl
  | succ j ih => rw [Nat.succ_add]; exact ih x.root
theorem rootN_succ (k : Nat) (x : Zw) : rootN (k + 1) x = (rootN k x).root := rootN_add k 1 x
theorem root_inj {x y : Zw} (h : x.root = y.root) : x = y := by
  obtain ⟨a, b, c, d⟩ := x
  obtain ⟨e, f, g, i⟩ := y
  simp only [Zw.root, Zw.mk.injEq] at *
  omega
theorem rootN_inj {k : Nat} {x y : Zw} (h : rootN k x = rootN k y) : x = y := by
  induction k generalizing x y with
  | zero => exact h
  | succ k ih => exact root_inj (ih h)
theorem root_add (x y : Zw) : (x.add y).root = x.root.add y.root := by
  simp only [Zw.root, Zw.add, Zw.mk.injEq]; omega
theorem rootN_addZ (k : Nat) (x y : Zw) : rootN k (x.add y) = (rootN k x).add (rootN k y) := by
  induction k generalizing x y with
  | zero => rfl
  | succ k ih => show rootN k (x.add y).root = _; rw [root_add]; exact ih _ _
theorem root_mul (x y : Zw) : (x.mul y).root = x.root.mul y := by
  simp only [Zw.root, Zw.mul, Zw.mk.injEq, Int.sub_mul, Int.add_mul]; omega
theorem rootN_mul (k : Nat) (x y : Zw) : rootN k (x.mul y) = (rootN k x).mul y := by
  induction k generalizing x with
  | zero => rfl
  | succ k ih => show rootN k (x.mul y).root = _; rw [root_mul]; exact ih _
theorem rootN_mul2 (j k : Nat) (x y : Zw) : rootN (j + k) (x.mul y) = (rootN j x).mul (rootN k y) := by
  rw [rootN_add, rootN_mul, mul_comm' y (rootN j x), rootN_mul, mul_comm' (rootN j x) (rootN k y)]
theorem root_conj (x : Zw) : x.conj.root = x.root.conj := by
  simp only [Zw.root, Zw.conj, Zw.mk.injEq]; omega
theorem rootN_conj (k : Nat) (x : Zw) : rootN k x.conj = (rootN k x).conj := by
  induction k generalizing x with
  | zero => rfl
  | succ k ih => show rootN k x.conj.root = _; rw [root_conj]; exact ih _
theorem root_neg (x : Zw) : x.neg.root = x.root.neg := by
  simp only [Zw.root, Zw.neg, Zw.mk.injEq]; omega
theorem rootN_neg (k : Nat) (x : Zw) : rootN k x.neg = (rootN k x).neg := by
  induction k generalizing x with
  | zero => rfl
  | succ k ih => show rootN k x.neg.root = _; rw [root_neg]; exact ih _
/-- One fraction has the value of another. -/
def Same (n : Zw) (k : Nat) (m : Zw) (j : Nat) : Prop := rootN j n = rootN k m
theorem Same.symm {n m : Zw} {k j : Nat} (h : Same n k m j) : Same m j n k := Eq.symm h
theorem Same.trans {n m r : Zw} {k j i : Nat} (h : Same n k m j) (h2 : Same m j r i) : Same n k r i := by
  unfold Same at *
  apply rootN_inj (k := j)
  rw [← rootN_add, ← rootN_add, Nat.add_comm i j, Nat.add_comm k j, rootN_add j i, h, rootN_add j k, ← h2, ← rootN_add, ← rootN_add, Nat.add_comm]
theorem Same.up (n : Zw) (k i : Nat) : Same (rootN i n) (k + i) n k := by
  unfold Same; rw [← rootN_add, Nat.add_comm k i]
/-- A fraction: the numerator and the power of the root of 2 below it. -/
structure Dw where
  n : Zw
  e : Int
def Dw.zero : Dw := ⟨.zero, 0⟩
def Dw.ok (x : Dw) : Prop := x.n.ok ∧ 0 ≤ x.e ∧ x.e ≤ 60 ∧ (x.e = 0 ∨ divB x.n = false)
instance (x : Dw) : Decidable x.ok := inferInstanceAs (Decidable (_ ∧ _))
/-- Factors of the root cancel, k times at the most. -/
def red : Nat → Zw → Zw × Nat
  | 0, n => (n, 0)
  | k + 1, n => if divB n then red k (divV n) else (n, k + 1)
theorem divV_root {n : Zw} (h : divB n = true) : (divV n).root = n ∧ (divV n).ok := by
  rw [divV_of h]
  exact ⟨half_root (divB_iff.1 h).2, half_ok (divB_iff.1 h).1 (divB_iff.1 h).2⟩
theorem red_le (k : Nat) (n : Zw) : (red k n).2 ≤ k := by
  induction k generalizing n with
  | zero => exact Nat.le_refl _
  | succ k ih =>
    unfold red
    split
    · exact Nat.le_succ_of_le (ih _)
    · exact Nat.le_refl _
theorem red_same (k : Nat) (n : Zw) : rootN (k - (red k n).2) (red k n).1 = n := by
  induction k generalizing n with
  | zero => rfl
  | succ k ih =>
    unfold red
    split
    · rename_i h
      rw [show k + 1 - (red k (divV n)).2 = (k - (red k (divV n)).2) + 1 by have := red_le k (divV n); omega, rootN_succ, ih, (divV_root h).1]
    · simp [rootN]
theorem red_same' (k : Nat) (n : Zw) : Same (red k n).1 (red k n).2 n k := by
  have h := Same.up (red k n).1 (red k n).2 (k - (red k n).2)
  rw [red_same, show (red k n).2 + (k - (red k n).2) = k by have := red_le k n; omega] at h
  exact h.symm
theorem red_ok {k : Nat} {n : Zw} (h : n.ok) : (red k n).1.ok := by
  induction k generalizing n with
  | zero => exact h
  | succ k ih =>
    unfold red
    split
    · rename_i h1; exact ih (divV_root h1).2
    · exact h
theorem red_done (k : Nat) (n : Zw) : (red k n).2 = 0 ∨ divB (red k n).1 = false := by
  induction k generalizing n with
  | zero => exact .inl rfl
  | succ k ih =>
    unfold red
    split
    · exact ih _
    · rename_i h; exact .inr (by simpa using h)
/-- NewDOmega. -/
def newB (n : Zw) (k : Int) : Bool := decide (n.ok ∧ 0 ≤ k ∧ k ≤ 120 ∧ (red k.toNat n).2 ≤ 60)
def newV (n : Zw) (k : Int) : Dw := if newB n k then ⟨(red k.toNat n).1, (red k.toNat n).2⟩ else .zero
theorem newB_iff {n : Zw} {k : Int} : newB n k = true ↔ n.ok ∧ 0 ≤ k ∧ k ≤ 120 ∧ (red k.toNat n).2 ≤ 60 := by simp [newB]
theorem newV_of {n : Zw} {k : Int} (h : newB n k = true) : newV n k = ⟨(red k.toNat n).1, (red k.toNat n).2⟩ := if_pos h
theorem newV_ok {n : Zw} {k : Int} (h : newB n k = true) : (newV n k).ok := by
  rw [newV_of h]
  obtain ⟨h1, h2, h3, h4⟩ := newB_iff.1 h
  refine ⟨red_ok h1, Int.natCast_nonneg _, by show (((red k.toNat n).2 : Nat) : Int) ≤ 60; omega, ?_⟩
  rcases red_done k.toNat n with h | h
  · exact .inl (by show (((red k.toNat n).2 : Nat) : Int) = 0; omega)
  · exact .inr h
/-- Equal values have equal reduced representations. -/
theorem unique_aux {n m : Zw} {k j : Nat} (hn : n.ok) (_ : m.ok) (hk : k = 0 ∨ divB n = false) (h : Same n k m j) (hjk : j ≤ k) : n = m ∧ k = j := by
  by_cases e : k = j
  · subst e; exact ⟨rootN_inj h, rfl⟩
  · exfalso
    have hk0 : k = (k - j - 1) + 1 + j := by omega
    have h2 : n = (rootN (k - j - 1) m).root := by
      apply rootN_inj (k := j)
      unfold Same at h
      rw [h, ← rootN_succ, ← rootN_add, ← hk0]
    rcases hk with hk | hk
    · omega
    · have : divB n = true := by
        refine divB_iff.2 ⟨hn, ?_⟩
        rw [h2]
        generalize rootN (k - j - 1) m = z
        obtain ⟨a, b, c, d⟩ := z
        simp only [Zw.root, Zw.even]
        omega
      rw [this] at hk
      cases hk
theorem unique {x y : Dw} (hx : x.ok) (hy : y.ok) (h : Same x.n x.e.toNat y.n y.e.toNat) : x = y := by
  obtain ⟨h1, h2, h3, h4⟩ := hx
  obtain ⟨k1, k2, k3, k4⟩ := hy
  have hh : x.n = y.n ∧ x.e.toNat = y.e.toNat := by
    rcases Nat.le_total y.e.toNat x.e.toNat with hl | hl
    · exact unique_aux h1 k1 (h4.elim (fun e => .inl (by omega)) .inr) h hl
    · obtain ⟨a, b⟩ := unique_aux k1 h1 (k4.elim (fun e => .inl (by omega)) .inr) h.symm hl
      exact ⟨a.symm, b.symm⟩
  obtain ⟨n, e⟩ := x
  obtain ⟨m, f⟩ := y
  obtain ⟨rfl, hef⟩ := hh
  congr 1
  simp only [] at h2 k2 hef
  omega
theorem newV_same {n : Zw} {k : Int} (h : newB n k = true) : Same (newV n k).n (newV n k).e.toNat n k.toNat := by
  rw [newV_of h]
  simpa using red_same' k.toNat n
/-- A valid fraction is its own representation. -/
theorem newV_self {x : Dw} (h : x.ok) : newB x.n x.e = true ∧ newV x.n x.e = x := by
  obtain ⟨h1, h2, h3, h4⟩ := h
  have hr : red x.e.toNat x.n = (x.n, x.e.toNat) := by
    rcases h4 with h4 | h4
    · rw [h4]; rfl
    · cases hk : x.e.toNat with
      | zero => rfl
      | succ k => unfold red; rw [h4]; rfl
  have hb : newB x.n x.e = true := newB_iff.2 ⟨h1, h2, by omega, by rw [hr]; show x.e.toNat ≤ 60; omega⟩
  refine ⟨hb, ?_⟩
  rw [newV_of hb, hr]
  obtain ⟨n, e⟩ := x
  congr 1
  show ((e.toNat : Nat) : Int) = e
  exact Int.toNat_of_nonneg h2
end Go.Proofs.Ytgicldokglpimaa
