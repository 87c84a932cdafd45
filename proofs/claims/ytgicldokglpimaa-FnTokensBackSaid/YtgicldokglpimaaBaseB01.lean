/- BaseB01: several of our texts in one: Heap Zw Set1. -/
import Derived.Test.YtgicldokglpimaaRows
import Derived.WalkKit
import Derived.WalkSpells
import Derived.WalkLawsBesides
import Derived.Lib.Hide
import Derived.OneCell
import Derived.WalkSmall
namespace Go.Proofs.Ytgicldokglpimaa
open Go.RowKit
/-- A block of cells: what each holds, that it may be written, what the block is behind a store. -/
theorem cell_at {w : World} {b : Nat} {cs : Array Value} {t : TypeId} (h : w.heap[b]? = some (.cells cs t (0, 0))) (o : Nat) (v : Value) (hv : cs[o]? = some v) : w.cell? ⟨b, o, none⟩ = some v := by
  simp [World.cell?, h, hv]
theorem free_at {w : World} {b : Nat} {cs : Array Value} {t : TypeId} (h : w.heap[b]? = some (.cells cs t (0, 0))) (o : Nat) : w.frozen? ⟨b, o, none⟩ = false := by
  simp [World.frozen?, h]
theorem heap_set {w : World} {b : Nat} {cs : Array Value} {t : TypeId} (h : w.heap[b]? = some (.cells cs t (0, 0))) (o : Nat) (u : Value) : (w.setCell ⟨b, o, none⟩ u).heap[b]? = some (.cells (cs.setIfInBounds o u) t (0, 0)) := by
  have hlt := lt_of_block h
  have h' : w.heap[b] = .cells cs t (0, 0) := by simpa [Array.getElem?_eq_getElem hlt] using h
  show (w.heap.modify b _)[b]? = _
  rw [Array.getElem?_eq_getElem (by simpa using hlt), Array.getElem_modify_self, h']
  rfl
/-- Only block B may have been written; new blocks may lie behind. -/
abbrev Own (B : Nat) (w w' : World) : Prop := w.grownBy w' (some B)
theorem own_refl (B : Nat) (w : World) : Own B w w := ⟨rfl, rfl, rfl, Nat.le_refl _, fun _ _ _ => rfl⟩
theorem own_trans {B : Nat} {a b c : World} (h : Own B a b) (k : Own B b c) : Own B a c :=
  ⟨k.os.trans h.os, k.tape.trans h.tape, k.output.trans h.output, Nat.le_trans h.size k.size, fun i hi hn => (k.block i (Nat.lt_of_lt_of_le hi h.size) hn).trans (h.block i hi hn)⟩
theorem own_set {B : Nat} {a w : World} (h : Own B a w) (o : Nat) (u : Value) : Own B a (w.setCell ⟨B, o, none⟩ u) :=
  own_trans h ⟨rfl, rfl, rfl, by simp [World.setCell], fun k _ hn => Below.heap_setCell _ _ _ _ (by intro e; exact hn (by rw [e]))⟩
theorem own_drew {B : Nat} {a w : World} (h : Own B a w) (n : Nat) : Own B a (w.drewN n) := own_trans h ⟨rfl, rfl, rfl, Nat.le_refl _, fun _ _ _ => rfl⟩
theorem own_alloc {B : Nat} {a w : World} (h : Own B a w) (o : Obj) : Own B a (w.alloc o) := own_trans h ⟨rfl, rfl, rfl, by simp, fun k hk _ => Below.heap_alloc _ _ _ hk⟩
theorem own_below {B : Nat} {a b c : World} (h : Below B a b) (k : Own B b c) (hB : B ≤ b.heap.size) : Below B a c :=
  h.grown k hB (fun k e => by cases e; exact Nat.le_refl _)
theorem below_own {B C : Nat} {a b c : World} (h : Below C a b) (k : Own B b c) (hB : C ≤ B) (hC : C ≤ b.heap.size) : Below C a c :=
  h.grown k hC (fun q e => by cases e; exact hB)
theorem own_of_below {B : Nat} {w w' : World} (h : Below w.heap.size w w') : Own B w w' := ⟨h.os, h.tape, h.output, h.size, fun k hk _ => h.block k hk⟩
end Go.Proofs.Ytgicldokglpimaa
/- The ring Z[omega] in plain integers: what is valid, the sum, the product, the two conjugates, division by the square root of 2. -/
namespace Go.Proofs.Ytgicldokglpimaa
structure Zw where
  a : Int
  b : Int
  c : Int
  d : Int
theorem Zw.ext4 {x y : Zw} (ha : x.a = y.a) (hb : x.b = y.b) (hc : x.c = y.c) (hd : x.d = y.d) : x = y := by
  cases x; cases y; simp_all
/-- One coefficient is within the limit. -/
def Near (n : Int) : Prop := -1073741824 ≤ n ∧ n ≤ 1073741824
instance (n : Int) : Decidable (Near n) := inferInstanceAs (Decidable (_ ∧ _))
def Zw.ok (x : Zw) : Prop := Near x.a ∧ Near x.b ∧ Near x.c ∧ Near x.d
instance (x : Zw) : Decidable x.ok := inferInstanceAs (Decidable (_ ∧ _))
/-- An integer of 64 bits. -/
def I64 (n : Int) : Prop := -9223372036854775808 ≤ n ∧ n ≤ 9223372036854775807
def Zw.i64 (x : Zw) : Prop := I64 x.a ∧ I64 x.b ∧ I64 x.c ∧ I64 x.d
def okB (x : Zw) : Bool := decide x.ok
theorem okB_true {x : Zw} : okB x = true ↔ x.ok := by simp [okB]
theorem okB_false {x : Zw} : okB x = false ↔ ¬ x.ok := by simp [okB]
def Zw.zero : Zw := ⟨0, 0, 0, 0⟩
def Zw.add (x y : Zw) : Zw := ⟨x.a + y.a, x.b + y.b, x.c + y.c, x.d + y.d⟩
def Zw.neg (x : Zw) : Zw := ⟨-x.a, -x.b, -x.c, -x.d⟩
def Zw.mul (x y : Zw) : Zw := ⟨x.a * y.a - x.b * y.d - x.c * y.c - x.d * y.b, x.a * y.b + x.b * y.a - x.c * y.d - x.d * y.c, x.a * y.c + x.b * y.b + x.c * y.a - x.d * y.d, x.a * y.d + x.b * y.c + x.c * y.b + x.d * y.a⟩
def Zw.conj (x : Zw) : Zw := ⟨x.a, -x.d, -x.c, -x.b⟩
def Zw.bar (x : Zw) : Zw := ⟨x.a, -x.b, x.c, -x.d⟩
/-- x times the square root of 2. -/
def Zw.root (x : Zw) : Zw := ⟨x.b - x.d, x.a + x.c, x.b + x.d, x.c - x.a⟩
def Zw.even (x : Zw) : Prop := x.a % 2 = 0 ∧ x.b % 2 = 0 ∧ x.c % 2 = 0 ∧ x.d % 2 = 0
instance (x : Zw) : Decidable x.even := inferInstanceAs (Decidable (_ ∧ _))
def Zw.half (x : Zw) : Zw := ⟨x.a / 2, x.b / 2, x.c / 2, x.d / 2⟩
/-- What the functions of the chapter return. -/
def addB (x y : Zw) : Bool := decide (x.ok ∧ y.ok ∧ (x.add y).ok)
def addV (x y : Zw) : Zw := if x.ok ∧ y.ok ∧ (x.add y).ok then x.add y else .zero
def mulB (x y : Zw) : Bool := decide (x.ok ∧ y.ok ∧ (x.mul y).ok)
def mulV (x y : Zw) : Zw := if x.ok ∧ y.ok ∧ (x.mul y).ok then x.mul y else .zero
def negV (x : Zw) : Zw := if x.ok then x.neg else .zero
def conjV (x : Zw) : Zw := if x.ok then x.conj else .zero
def barV (x : Zw) : Zw := if x.ok then x.bar else .zero
def divB (x : Zw) : Bool := decide (x.ok ∧ x.root.even)
def divV (x : Zw) : Zw := if x.ok ∧ x.root.even then x.root.half else .zero
theorem Near.i64 {n : Int} (h : Near n) : I64 n := by unfold Near at h; unfold I64; omega
theorem Zw.ok.i64 {x : Zw} (h : x.ok) : x.i64 := ⟨h.1.i64, h.2.1.i64, h.2.2.1.i64, h.2.2.2.i64⟩
/-- A product of two coefficients. -/
theorem near_mul {a b : Int} (ha : Near a) (hb : Near b) : -1152921504606846976 ≤ a * b ∧ a * b ≤ 1152921504606846976 := by
  unfold Near at ha hb
  have h1 : 0 ≤ (1073741824 - a) * (1073741824 + b) := Int.mul_nonneg (by omega) (by omega)
  have h2 : 0 ≤ (1073741824 + a) * (1073741824 - b) := Int.mul_nonneg (by omega) (by omega)
  have h3 : 0 ≤ (1073741824 + a) * (1073741824 + b) := Int.mul_nonneg (by omega) (by omega)
  have h4 : 0 ≤ (1073741824 - a) * (1073741824 - b) := Int.mul_nonneg (by omega) (by omega)
  simp only [Int.mul_add, Int.add_mul, Int.mul_sub, Int.sub_mul] at h1 h2 h3 h4
  omega
end Go.Proofs.Ytgicldokglpimaa
namespace Go.Proofs.Ytgicldokglpimaa
open Go.RowKit
theorem set1_blk {g b o : Nat} {W : World} {x : Obj} {u : Value} (hn : b ≠ g) (h : W.heap[b]? = some x) : (W.setCell ⟨g, o, none⟩ u).heap[b]? = some x := by
  rw [Below.heap_setCell _ _ _ _ (by simpa using hn)]; exact h
end Go.Proofs.Ytgicldokglpimaa
