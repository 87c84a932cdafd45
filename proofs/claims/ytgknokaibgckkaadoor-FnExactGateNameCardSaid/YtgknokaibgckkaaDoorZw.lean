/- The ring Z[omega] in plain integers: what is valid, the sum, the product, the two conjugates, division by the square root of 2. -/
namespace Go.Proofs.YtgknokaibgckkaaDoor
structure Zw where
  a : Int
  b : Int
  c : Int
  d : Int
theorem Zw.ext4 {x y : Zw} (ha : x.a = y.a) (hb : x.b = y.b) (hc : x.c = y.c) (hd : x.d = y.d) : x = y := by
  cases x; cases y; simp_all
/-- One coefficient is within the limit. -/
def Near (n : Int) : Prop := -1073741824 ≤ n ∧ n ≤ 1073741824
instance (n : Int) : Decidable (Near n) := inferInstanceAs (Decidable (_ ∧ _))
def Zw.ok (x : Zw) : Prop := Near x.a ∧ Near x.b ∧ Near x.c ∧ Near x.d
instance (x : Zw) : Decidable x.ok := inferInstanceAs (Decidable (_ ∧ _))
/-- An integer of 64 bits. -/
def I64 (n : Int) : Prop := -9223372036854775808 ≤ n ∧ n ≤ 9223372036854775807
def Zw.i64 (x : Zw) : Prop := I64 x.a ∧ I64 x.b ∧ I64 x.c ∧ I64 x.d
def okB (x : Zw) : Bool := decide x.ok
theorem okB_true {x : Zw} : okB x = true ↔ x.ok := by simp [okB]
theorem okB_false {x : Zw} : okB x = false ↔ ¬ x.ok := by simp [okB]
def Zw.zero : Zw := ⟨0, 0, 0, 0⟩
def Zw.add (x y : Zw) : Zw := ⟨x.a + y.a, x.b + y.b, x.c + y.c, x.d + y.d⟩
def Zw.neg (x : Zw) : Zw := ⟨-x.a, -x.b, -x.c, -x.d⟩
def Zw.mul (x y : Zw) : Zw := ⟨x.a * y.a - x.b * y.d - x.c * y.c - x.d * y.b, x.a * y.b + x.b * y.a - x.c * y.d - x.d * y.c, x.a * y.c + x.b * y.b + x.c * y.a - x.d * y.d, x.a * y.d + x.b * y.c + x.c * y.b + x.d * y.a⟩
def Zw.conj (x : Zw) : Zw := ⟨x.a, -x.d, -x.c, -x.b⟩
def Zw.bar (x : Zw) : Zw := ⟨x.a, -x.b, x.c, -x.d⟩
/-- x times the square root of 2. -/
def Zw.root (x : Zw) : Zw := ⟨x.b - x.d, x.a + x.c, x.b + x.d, x.c - x.a⟩
def Zw.even (x : Zw) : Prop := x.a % 2 = 0 ∧ x.b % 2 = 0 ∧ x.c % 2 = 0 ∧ x.d % 2 = 0
instance (x : Zw) : Decidable x.even := inferInstanceAs (Decidable (_ ∧ _))
def Zw.half (x : Zw) : Zw := ⟨x.a / 2, x.b / 2, x.c / 2, x.d / 2⟩
/-- What the functions of the chapter return. -/
def addB (x y : Zw) : Bool := decide (x.ok ∧ y.ok ∧ (x.add y).ok)
def addV (x y : Zw) : Zw := if x.ok ∧ y.ok ∧ (x.add y).ok then x.add y else .zero
def mulB (x y : Zw) : Bool := decide (x.ok ∧ y.ok ∧ (x.mul y).ok)
def mulV (x y : Zw) : Zw := if x.ok ∧ y.ok ∧ (x.mul y).ok then x.mul y else .zero
def negV (x : Zw) : Zw := if x.ok then x.neg else .zero
def conjV (x : Zw) : Zw := if x.ok then x.conj else .zero
def barV (x : Zw) : Zw := if x.ok then x.bar else .zero
def divB (x : Zw) : Bool := decide (x.ok ∧ x.root.even)
def divV (x : Zw) : Zw := if x.ok ∧ x.root.even then x.root.half else .zero
theorem Near.i64 {n : Int} (h : Near n) : I64 n := by unfold Near at h; unfold I64; omega
theorem Zw.ok.i64 {x : Zw} (h : x.ok) : x.i64 := ⟨h.1.i64, h.2.1.i64, h.2.2.1.i64, h.2.2.2.i64⟩
/-- A product of two coefficients. -/
theorem near_mul {a b : Int} (ha : Near a) (hb : Near b) : -1152921504606846976 ≤ a * b ∧ a * b ≤ 1152921504606846976 := by
  unfold Near at ha hb
  have h1 : 0 ≤ (1073741824 - a) * (1073741824 + b) := Int.mul_nonneg (by omega) (by omega)
  have h2 : 0 ≤ (1073741824 + a) * (1073741824 - b) := Int.mul_nonneg (by omega) (by omega)
  have h3 : 0 ≤ (1073741824 + a) * (1073741824 + b) := Int.mul_nonneg (by omega) (by omega)
  have h4 : 0 ≤ (1073741824 - a) * (1073741824 - b) := Int.mul_nonneg (by omega) (by omega)
  simp only [Int.mul_add, Int.add_mul, Int.mul_sub, Int.sub_mul] at h1 h2 h3 h4
  omega
end Go.Proofs.YtgknokaibgckkaaDoor
