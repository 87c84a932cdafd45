/- The ring D[omega] in plain integers: fractions over powers of the root of 2, reduced; what the functions return; their properties. -/
import Derived.Test.YtgknokaibgckkaaDoorZwM
namespace Go.Proofs.YtgknokaibgckkaaDoor
/-- x times the k-th power of the root of 2. -/
def rootN : Nat → Zw → Zw
  | 0, x => x
  | k + 1, x => rootN k x.root
theorem rootN_add (j k : Nat) (x : Zw) : rootN (j + k) x = rootN k (rootN j x) := by
  induction j generalizing x with
  | zero => rw [Nat.zero_add]; rfl
  | succ j ih => rw [Nat.succ_add]; exact ih x.root
theorem rootN_succ (k : Nat) (x : Zw) : rootN (k + 1) x = (rootN k x).root := rootN_add k 1 x
theorem root_inj {x y : Zw} (h : x.root = y.root) : x = y := by
  obtain ⟨a, b, c, d⟩ := x
  obtain ⟨e, f, g, i⟩ := y
  simp only [Zw.root, Zw.mk.injEq] at *
  omega
theorem rootN_inj {k : Nat} {x y : Zw} (h : rootN k x = rootN k y) : x = y := by
  induction k generalizing x y with
  | zero => exact h
  | succ k ih => exact root_inj (ih h)
theorem root_add (x y : Zw) : (x.add y).root = x.root.add y.root := by
  simp only [Zw.root, Zw.add, Zw.mk.injEq]; omega
theorem rootN_addZ (k : Nat) (x y : Zw) : rootN k (x.add y) = (rootN k x).add (rootN k y) := by
  induction k generalizing x y with
  | zero => rfl
  | succ k ih => show rootN k (x.add y).root = _; rw [root_add]; exact ih _ _
theorem root_mul (x y : Zw) : (x.mul y).root = x.root.mul y := by
  simp only [Zw.root, Zw.mul, Zw.mk.injEq, Int.sub_mul, Int.add_mul]; omega
theorem rootN_mul (k : Nat) (x y : Zw) : rootN k (x.mul y) = (rootN k x).mul y := by
  induction k generalizing x with
  | zero => rfl
  | succ k ih => show rootN k (x.mul y).root = _; rw [root_mul]; exact ih _
theorem rootN_mul2 (j k : Nat) (x y : Zw) : rootN (j + k) (x.mul y) = (rootN j x).mul (rootN k y) := by
  rw [rootN_add, rootN_mul, mul_comm' y (rootN j x), rootN_mul, mul_comm' (rootN j x) (rootN k y)]
theorem root_conj (x : Zw) : x.conj.root = x.root.conj := by
  simp only [Zw.root, Zw.conj, Zw.mk.injEq]; omega
theorem rootN_conj (k : Nat) (x : Zw) : rootN k x.conj = (rootN k x).conj := by
  induction k generalizing x with
  | zero => rfl
  | succ k ih => show rootN k x.conj.root = _; rw [root_conj]; exact ih _
theorem root_neg (x : Zw) : x.neg.root = x.root.neg := by
  simp only [Zw.root, Zw.neg, Zw.mk.injEq]; omega
theorem rootN_neg (k : Nat) (x : Zw) : rootN k x.neg = (rootN k x).neg := by
  induction k generalizing x with
  | zero => rfl
  | succ k ih => show rootN k x.neg.root = _; rw [root_neg]; exact ih _
/-- One fraction has the value of another. -/
def Same (n : Zw) (k : Nat) (m : Zw) (j : Nat) : Prop := rootN j n = rootN k m
theorem Same.symm {n m : Zw} {k j : Nat} (h : Same n k m j) : Same m j n k := Eq.symm h
theorem Same.trans {n m r : Zw} {k j i : Nat} (h : Same n k m j) (h2 : Same m j r i) : Same n k r i := by
  unfold Same at *
  apply rootN_inj (k := j)
  rw [← rootN_add, ← rootN_add, Nat.add_comm i j, Nat.add_comm k j, rootN_add j i, h, rootN_add j k, ← h2, ← rootN_add, ← rootN_add, Nat.add_comm]
theorem Same.up (n : Zw) (k i : Nat) : Same (rootN i n) (k + i) n k := by
  unfold Same; rw [← rootN_add, Nat.add_comm k i]
/-- A fraction: the numerator and the power of the root of 2 below it. -/
structure Dw where
  n : Zw
  e : Int
def Dw.zero : Dw := ⟨.zero, 0⟩
def Dw.ok (x : Dw) : Prop := x.n.ok ∧ 0 ≤ x.e ∧ x.e ≤ 60 ∧ (x.e = 0 ∨ divB x.n = false)
instance (x : Dw) : Decidable x.ok := inferInstanceAs (Decidable (_ ∧ _))
/-- Factors of the root cancel, k times at the most. -/
def red : Nat → Zw → Zw × Nat
  | 0, n => (n, 0)
  | k + 1, n => if divB n then red k (divV n) else (n, k + 1)
theorem divV_root {n : Zw} (h : divB n = true) : (divV n).root = n ∧ (divV n).ok := by
  rw [divV_of h]
  exact ⟨half_root (divB_iff.1 h).2, half_ok (divB_iff.1 h).1 (divB_iff.1 h).2⟩
theorem red_le (k : Nat) (n : Zw) : (red k n).2 ≤ k := by
  induction k generalizing n with
  | zero => exact Nat.le_refl _
  | succ k ih =>
    unfold red
    split
    · exact Nat.le_succ_of_le (ih _)
    · exact Nat.le_refl _
theorem red_same (k : Nat) (n : Zw) : rootN (k - (red k n).2) (red k n).1 = n := by
  induction k generalizing n with
  | zero => rfl
  | succ k ih =>
    unfold red
    split
    · rename_i h
      rw [show k + 1 - (red k (divV n)).2 = (k - (red k (divV n)).2) + 1 by have := red_le k (divV n); omega, rootN_succ, ih, (divV_root h).1]
    · simp [rootN]
theorem red_same' (k : Nat) (n : Zw) : Same (red k n).1 (red k n).2 n k := by
  have h := Same.up (red k n).1 (red k n).2 (k - (red k n).2)
  rw [red_same, show (red k n).2 + (k - (red k n).2) = k by have := red_le k n; omega] at h
  exact h.symm
theorem red_ok {k : Nat} {n : Zw} (h : n.ok) : (red k n).1.ok := by
  induction k generalizing n with
  | zero => exact h
  | succ k ih =>
    unfold red
    split
    · rename_i h1; exact ih (divV_root h1).2
    · exact h
theorem red_done (k : Nat) (n : Zw) : (red k n).2 = 0 ∨ divB (red k n).1 = false := by
  induction k generalizing n with
  | zero => exact .inl rfl
  | succ k ih =>
    unfold red
    split
    · exact ih _
    · rename_i h; exact .inr (by simpa using h)
/-- NewDOmega. -/
def newB (n : Zw) (k : Int) : Bool := decide (n.ok ∧ 0 ≤ k ∧ k ≤ 120 ∧ (red k.toNat n).2 ≤ 60)
def newV (n : Zw) (k : Int) : Dw := if newB n k then ⟨(red k.toNat n).1, (red k.toNat n).2⟩ else .zero
theorem newB_iff {n : Zw} {k : Int} : newB n k = true ↔ n.ok ∧ 0 ≤ k ∧ k ≤ 120 ∧ (red k.toNat n).2 ≤ 60 := by simp [newB]
theorem newV_of {n : Zw} {k : Int} (h : newB n k = true) : newV n k = ⟨(red k.toNat n).1, (red k.toNat n).2⟩ := if_pos h
theorem newV_ok {n : Zw} {k : Int} (h : newB n k = true) : (newV n k).ok := by
  rw [newV_of h]
  obtain ⟨h1, h2, h3, h4⟩ := newB_iff.1 h
  refine ⟨red_ok h1, Int.natCast_nonneg _, by show (((red k.toNat n).2 : Nat) : Int) ≤ 60; omega, ?_⟩
  rcases red_done k.toNat n with h | h
  · exact .inl (by show (((red k.toNat n).2 : Nat) : Int) = 0; omega)
  · exact .inr h
/-- Equal values have equal reduced representations. -/
theorem unique_aux {n m : Zw} {k j : Nat} (hn : n.ok) (_ : m.ok) (hk : k = 0 ∨ divB n = false) (h : Same n k m j) (hjk : j ≤ k) : n = m ∧ k = j := by
  by_cases e : k = j
  · subst e; exact ⟨rootN_inj h, rfl⟩
  · exfalso
    have hk0 : k = (k - j - 1) + 1 + j := by omega
    have h2 : n = (rootN (k - j - 1) m).root := by
      apply rootN_inj (k := j)
      unfold Same at h
      rw [h, ← rootN_succ, ← rootN_add, ← hk0]
    rcases hk with hk | hk
    · omega
    · have : divB n = true := by
        refine divB_iff.2 ⟨hn, ?_⟩
        rw [h2]
        generalize rootN (k - j - 1) m = z
        obtain ⟨a, b, c, d⟩ := z
        simp only [Zw.root, Zw.even]
        omega
      rw [this] at hk
      cases hk
theorem unique {x y : Dw} (hx : x.ok) (hy : y.ok) (h : Same x.n x.e.toNat y.n y.e.toNat) : x = y := by
  obtain ⟨h1, h2, h3, h4⟩ := hx
  obtain ⟨k1, k2, k3, k4⟩ := hy
  have hh : x.n = y.n ∧ x.e.toNat = y.e.toNat := by
    rcases Nat.le_total y.e.toNat x.e.toNat with hl | hl
    · exact unique_aux h1 k1 (h4.elim (fun e => .inl (by omega)) .inr) h hl
    · obtain ⟨a, b⟩ := unique_aux k1 h1 (k4.elim (fun e => .inl (by omega)) .inr) h.symm hl
      exact ⟨a.symm, b.symm⟩
  obtain ⟨n, e⟩ := x
  obtain ⟨m, f⟩ := y
  obtain ⟨rfl, hef⟩ := hh
  congr 1
  simp only [] at h2 k2 hef
  omega
theorem newV_same {n : Zw} {k : Int} (h : newB n k = true) : Same (newV n k).n (newV n k).e.toNat n k.toNat := by
  rw [newV_of h]
  simpa using red_same' k.toNat n
/-- A valid fraction is its own representation. -/
theorem newV_self {x : Dw} (h : x.ok) : newB x.n x.e = true ∧ newV x.n x.e = x := by
  obtain ⟨h1, h2, h3, h4⟩ := h
  have hr : red x.e.toNat x.n = (x.n, x.e.toNat) := by
    rcases h4 with h4 | h4
    · rw [h4]; rfl
    · cases hk : x.e.toNat with
      | zero => rfl
      | succ k => unfold red; rw [h4]; rfl
  have hb : newB x.n x.e = true := newB_iff.2 ⟨h1, h2, by omega, by rw [hr]; show x.e.toNat ≤ 60; omega⟩
  refine ⟨hb, ?_⟩
  rw [newV_of hb, hr]
  obtain ⟨n, e⟩ := x
  congr 1
  show ((e.toNat : Nat) : Int) = e
  exact Int.toNat_of_nonneg h2
end Go.Proofs.YtgknokaibgckkaaDoor
