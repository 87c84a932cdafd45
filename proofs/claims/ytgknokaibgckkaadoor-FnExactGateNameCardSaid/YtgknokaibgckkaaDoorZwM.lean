/- The chapter's properties in plain integers: the sum and the product commute, the conjugates are homomorphisms, the product spreads over the sum, division by the root undoes the product by it. -/
import Derived.Test.YtgknokaibgckkaaDoorZwD
namespace Go.Proofs.YtgknokaibgckkaaDoor
theorem near_neg {n : Int} : Near (-n) ↔ Near n := by unfold Near; omega
theorem add_comm' (x y : Zw) : y.add x = x.add y := by
  simp only [Zw.add, Zw.mk.injEq]; omega
theorem mul_comm' (x y : Zw) : y.mul x = x.mul y := by
  simp only [Zw.mul, Zw.mk.injEq, Int.mul_comm y.a, Int.mul_comm y.b, Int.mul_comm y.c, Int.mul_comm y.d]; omega
theorem addB_comm (x y : Zw) : addB y x = addB x y := by
  unfold addB; rw [add_comm']; rw [Bool.eq_iff_iff]; simp only [decide_eq_true_eq]; exact ⟨fun ⟨a, b, c⟩ => ⟨b, a, c⟩, fun ⟨a, b, c⟩ => ⟨b, a, c⟩⟩
theorem mulB_comm (x y : Zw) : mulB y x = mulB x y := by
  unfold mulB; rw [mul_comm']; rw [Bool.eq_iff_iff]; simp only [decide_eq_true_eq]; exact ⟨fun ⟨a, b, c⟩ => ⟨b, a, c⟩, fun ⟨a, b, c⟩ => ⟨b, a, c⟩⟩
theorem addB_iff {x y : Zw} : addB x y = true ↔ x.ok ∧ y.ok ∧ (x.add y).ok := by simp [addB]
theorem mulB_iff {x y : Zw} : mulB x y = true ↔ x.ok ∧ y.ok ∧ (x.mul y).ok := by simp [mulB]
theorem divB_iff {x : Zw} : divB x = true ↔ x.ok ∧ x.root.even := by simp [divB]
theorem addV_of {x y : Zw} (h : addB x y = true) : addV x y = x.add y := if_pos (addB_iff.1 h)
theorem addV_no {x y : Zw} (h : addB x y = false) : addV x y = .zero := if_neg (by simpa [addB] using h)
theorem mulV_of {x y : Zw} (h : mulB x y = true) : mulV x y = x.mul y := if_pos (mulB_iff.1 h)
theorem divV_of {x : Zw} (h : divB x = true) : divV x = x.root.half := if_pos (divB_iff.1 h)
theorem addV_comm (x y : Zw) : addV y x = addV x y := by
  cases h : addB x y
  · rw [addV_no h, addV_no ((addB_comm x y).trans h)]
  · rw [addV_of h, addV_of ((addB_comm x y).trans h), add_comm']
theorem mulV_comm (x y : Zw) : mulV y x = mulV x y := by
  cases h : mulB x y
  · rw [show mulV x y = .zero from if_neg (by simpa [mulB] using h), show mulV y x = .zero from if_neg (by simpa [mulB] using (mulB_comm x y).trans h)]
  · rw [mulV_of h, mulV_of ((mulB_comm x y).trans h), mul_comm']
theorem neg_ok {x : Zw} : x.neg.ok ↔ x.ok := by simp only [Zw.neg, Zw.ok, near_neg]
theorem conj_ok {x : Zw} : x.conj.ok ↔ x.ok := by
  simp only [Zw.conj, Zw.ok, near_neg]; exact ⟨fun ⟨a, b, c, d⟩ => ⟨a, d, c, b⟩, fun ⟨a, b, c, d⟩ => ⟨a, d, c, b⟩⟩
theorem bar_ok {x : Zw} : x.bar.ok ↔ x.ok := by simp only [Zw.bar, Zw.ok, near_neg]
theorem addV_ok {x y : Zw} (h : addB x y = true) : (addV x y).ok := by rw [addV_of h]; exact (addB_iff.1 h).2.2
/-- The sum less y is x. -/
theorem add_back {x y : Zw} (h : addB x y = true) : addB (addV x y) (negV y) = true ∧ addV (addV x y) (negV y) = x := by
  obtain ⟨hx, hy, hs⟩ := addB_iff.1 h
  have e : (x.add y).add y.neg = x := by cases x; cases y; simp only [Zw.add, Zw.neg, Zw.mk.injEq]; omega
  have en : negV y = y.neg := if_pos hy
  have hb : addB (x.add y) y.neg = true := addB_iff.2 ⟨hs, neg_ok.2 hy, by rw [e]; exact hx⟩
  rw [en, addV_of h]
  exact ⟨hb, by rw [addV_of hb, e]⟩
theorem conj_mul (x y : Zw) : x.conj.mul y.conj = (x.mul y).conj := by
  simp only [Zw.conj, Zw.mul, Zw.mk.injEq, Int.mul_neg, Int.neg_mul]; omega
theorem bar_mul (x y : Zw) : x.bar.mul y.bar = (x.mul y).bar := by
  simp only [Zw.bar, Zw.mul, Zw.mk.injEq, Int.mul_neg, Int.neg_mul]; omega
theorem conj_hom {x y : Zw} (h : mulB x y = true) : mulB (conjV x) (conjV y) = true ∧ mulV (conjV x) (conjV y) = conjV (mulV x y) := by
  obtain ⟨hx, hy, hp⟩ := mulB_iff.1 h
  rw [mulV_of h, show conjV x = x.conj from if_pos hx, show conjV y = y.conj from if_pos hy, show conjV (x.mul y) = (x.mul y).conj from if_pos hp]
  have hb : mulB x.conj y.conj = true := mulB_iff.2 ⟨conj_ok.2 hx, conj_ok.2 hy, by rw [conj_mul]; exact conj_ok.2 hp⟩
  exact ⟨hb, by rw [mulV_of hb, conj_mul]⟩
theorem bar_hom {x y : Zw} (h : mulB x y = true) : mulB (barV x) (barV y) = true ∧ mulV (barV x) (barV y) = barV (mulV x y) := by
  obtain ⟨hx, hy, hp⟩ := mulB_iff.1 h
  rw [mulV_of h, show barV x = x.bar from if_pos hx, show barV y = y.bar from if_pos hy, show barV (x.mul y) = (x.mul y).bar from if_pos hp]
  have hb : mulB x.bar y.bar = true := mulB_iff.2 ⟨bar_ok.2 hx, bar_ok.2 hy, by rw [bar_mul]; exact bar_ok.2 hp⟩
  exact ⟨hb, by rw [mulV_of hb, bar_mul]⟩
theorem conj_conj {x : Zw} (h : x.ok) : conjV (conjV x) = x := by
  rw [show conjV x = x.conj from if_pos h, show conjV x.conj = x.conj.conj from if_pos (conj_ok.2 h)]
  cases x; simp [Zw.conj]
theorem bar_bar {x : Zw} (h : x.ok) : barV (barV x) = x := by
  rw [show barV x = x.bar from if_pos h, show barV x.bar = x.bar.bar from if_pos (bar_ok.2 h)]
  cases x; simp [Zw.bar]
theorem add_mul' (x y z : Zw) : (x.add y).mul z = (x.mul z).add (y.mul z) := by
  simp only [Zw.add, Zw.mul, Zw.mk.injEq, Int.add_mul]; omega
theorem spreads {x y z : Zw} (h1 : addB x y = true) (h2 : mulB x z = true) (h3 : mulB y z = true) (h4 : mulB (addV x y) z = true) (h5 : addB (mulV x z) (mulV y z) = true) :
    mulV (addV x y) z = addV (mulV x z) (mulV y z) := by
  rw [mulV_of h4, addV_of h5, mulV_of h2, mulV_of h3, addV_of h1, add_mul']
def rootE : Zw := ⟨0, 1, 0, -1⟩
theorem rootE_ok : rootE.ok := by decide
theorem mul_rootE (y : Zw) : y.mul rootE = y.root := by
  simp only [rootE, Zw.mul, Zw.root, Zw.mk.injEq, Int.mul_zero, Int.mul_one, Int.mul_neg]; omega
theorem half_ok {x : Zw} (h : x.ok) (k : x.root.even) : x.root.half.ok := by rw [← thalf_half k]; exact thalf_ok h
theorem half_root {x : Zw} (k : x.root.even) : x.root.half.root = x := by rw [← thalf_half k]; exact thalf_root.2 k
theorem div_back {x : Zw} (h : divB x = true) : mulB (divV x) rootE = true ∧ mulV (divV x) rootE = x := by
  obtain ⟨hx, hk⟩ := divB_iff.1 h
  have e : (x.root.half).mul rootE = x := by rw [mul_rootE, half_root hk]
  have hb : mulB x.root.half rootE = true := mulB_iff.2 ⟨half_ok hx hk, rootE_ok, by rw [e]; exact hx⟩
  rw [divV_of h]
  exact ⟨hb, by rw [mulV_of hb, e]⟩
theorem root_back {x : Zw} (h : mulB x rootE = true) : divB (mulV x rootE) = true ∧ divV (mulV x rootE) = x := by
  obtain ⟨_, _, hp⟩ := mulB_iff.1 h
  rw [mulV_of h]
  rw [mul_rootE] at hp ⊢
  have e : x.root.root.even ∧ x.root.root.half = x := by
    obtain ⟨a, b, c, d⟩ := x
    simp only [Zw.root, Zw.even, Zw.half, Zw.mk.injEq]
    omega
  have hb : divB x.root = true := divB_iff.2 ⟨hp, e.1⟩
  exact ⟨hb, by rw [divV_of hb, e.2]⟩
end Go.Proofs.YtgknokaibgckkaaDoor
