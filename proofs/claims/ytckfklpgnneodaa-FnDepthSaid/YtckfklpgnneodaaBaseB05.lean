/- BaseB05: several of our texts in one: DsF DsC DsD DsE DsA DsI. -/
import Derived.Test.YtckfklpgnneodaaBaseB07
import Derived.Test.YtckfklpgnneodaaDwS
import Derived.Test.YtckfklpgnneodaaBaseB04
namespace Go.Proofs.Ytckfklpgnneodaa
open Go.RowKit
theorem row_below {w w' : World} {base : Nat} {e : TypeId} {size : Nat} {v : Value} {n : Nat} {xs : List Value} (h : w.ownsRow base e size v n xs) (hb : Below w.heap.size w w') : w'.ownsRow base e size v n xs := by
  obtain ⟨h1, h2⟩ := h
  refine ⟨h1, ?_⟩
  rcases h2 with h2 | ⟨g, cap, cur, a, b, c, d⟩
  · exact .inl h2
  · exact .inr ⟨g, cap, cur, a, b, by rw [hb.block g (lt_of_block c)]; exact c, d⟩
/-- An element of a row and a box. -/
def FB (w : World) (g o : Nat) (x : Dw) (b : Nat) (y : Dw) (w' : World) : Prop := w'.cell? ⟨g, o, none⟩ = some (.int .i64 x.n.a) ∧ w'.cell? ⟨g, o + 1, none⟩ = some (.int .i64 x.n.b) ∧ w'.cell? ⟨g, o + 2, none⟩ = some (.int .i64 x.n.c) ∧ w'.cell? ⟨g, o + 3, none⟩ = some (.int .i64 x.n.d) ∧ w'.cell? ⟨g, o + 4, none⟩ = some (.int .i64 x.e) ∧ w'.cell? ⟨b, 0, none⟩ = some (.int .i64 y.n.a) ∧ w'.cell? ⟨b, 1, none⟩ = some (.int .i64 y.n.b) ∧ w'.cell? ⟨b, 2, none⟩ = some (.int .i64 y.n.c) ∧ w'.cell? ⟨b, 3, none⟩ = some (.int .i64 y.n.d) ∧ w'.cell? ⟨b, 4, none⟩ = some (.int .i64 y.e) ∧ g < w'.heap.size ∧ b < w'.heap.size ∧ Below w.heap.size w w'
theorem FB.drew {w w' : World} {g o b : Nat} {x y : Dw} (h : FB w g o x b y w') : FB w g o x b y w'.drew :=
  let ⟨a0, a1, a2, a3, a4, b0, b1, b2, b3, b4, z, z', l⟩ := h; ⟨a0, a1, a2, a3, a4, b0, b1, b2, b3, b4, z, z', l.drew⟩
theorem FB.below {w w1 w2 : World} {g o b : Nat} {x y : Dw} (h : FB w g o x b y w1) (hb : Below w1.heap.size w1 w2) : FB w g o x b y w2 :=
  let ⟨a0, a1, a2, a3, a4, b0, b1, b2, b3, b4, z, z', l⟩ := h
  ⟨cell_below a0 hb z, cell_below a1 hb z, cell_below a2 hb z, cell_below a3 hb z, cell_below a4 hb z, cell_below b0 hb z', cell_below b1 hb z', cell_below b2 hb z', cell_below b3 hb z', cell_below b4 hb z', Nat.lt_of_lt_of_le z hb.size, Nat.lt_of_lt_of_le z' hb.size, below_up l hb l.size⟩
theorem FB.alloc {w w1 : World} {g o b : Nat} {x y : Dw} (h : FB w g o x b y w1) (p : Obj) : FB w g o x b y (w1.alloc p) := h.below ((Below.refl _ _).alloc (Nat.le_refl _) p)
theorem FB.low {w w' : World} {g o b : Nat} {x y : Dw} (h : FB w g o x b y w') : Below w.heap.size w w' := let ⟨_, _, _, _, _, _, _, _, _, _, _, _, l⟩ := h; l
theorem E2.alloc {w w1 : World} {g g' o : Nat} {x y : Dw} (h : E2 w g g' o x y w1) (p : Obj) : E2 w g g' o x y (w1.alloc p) := h.below ((Below.refl _ _).alloc (Nat.le_refl _) p)
end Go.Proofs.Ytckfklpgnneodaa
namespace Go.Proofs.Ytckfklpgnneodaa
open Go.RowKit
theorem fl_plain (y : Dw) : ∀ u ∈ fl y, u.oneCell' = true := by
  intro u hu
  simp [fl] at hu
  rcases hu with rfl | rfl | rfl | rfl | rfl <;> rfl
attribute [local irreducible] World.cell?
end Go.Proofs.Ytckfklpgnneodaa
namespace Go.Proofs.Ytckfklpgnneodaa
open Go.RowKit
theorem row_own {w w' : World} {base B : Nat} {e : TypeId} {size : Nat} {v : Value} {n : Nat} {xs : List Value} (h : w.ownsRow base e size v n xs) (ho : Own B w w') (hB : B < base) : w'.ownsRow base e size v n xs := by
  obtain ⟨h1, h2⟩ := h
  refine ⟨h1, ?_⟩
  rcases h2 with h2 | ⟨g, cap, cur, a, b, c, d⟩
  · exact .inl h2
  · exact .inr ⟨g, cap, cur, a, b, by rw [ho.block g (lt_of_block c) (by intro e; injection e with e; omega)]; exact c, d⟩
/-- The exponents of a row are machine integers. -/
def Eb (l : List Dw) : Prop := ∀ x ∈ l, -9223372036854775808 ≤ x.e ∧ x.e ≤ 9223372036854775807
theorem Eb.snoc {l : List Dw} {x : Dw} (h : Eb l) (hx : -9223372036854775808 ≤ x.e ∧ x.e ≤ 9223372036854775807) : Eb (l ++ [x]) := by
  intro y hy
  rcases List.mem_append.1 hy with hy | hy
  · exact h y hy
  · obtain rfl : y = x := by simpa using hy
    exact hx
theorem Eb.set {l : List Dw} {x : Dw} (h : Eb l) (j : Nat) (hx : -9223372036854775808 ≤ x.e ∧ x.e ≤ 9223372036854775807) : Eb (l.set j x) := by
  intro y hy
  rcases List.mem_or_eq_of_mem_set hy with hy | rfl
  · exact h y hy
  · exact hx
theorem Eb.take {l : List Dw} (h : Eb l) (j : Nat) : Eb (l.take j) := fun y hy => h y (List.mem_of_mem_take hy)
theorem flat_snoc (l : List Dw) (y : Dw) : flat l ++ fl y = flat (l ++ [y]) := by rw [flat_app]; simp [flat]
theorem own_dn {B : Nat} {a w : World} (h : Own B a w) (o : Nat) (u : Value) {k : Nat} (hk : a.heap.size ≤ k) : Own B a (w.setCell ⟨k, o, none⟩ u) :=
  ⟨h.os, h.tape, h.output, by simpa [World.setCell] using h.size, fun i hi hn => (Below.heap_setCell _ _ _ _ (by show i ≠ k; omega)).trans (h.block i hi hn)⟩
attribute [local irreducible] World.cell?
end Go.Proofs.Ytckfklpgnneodaa
namespace Go.Proofs.Ytckfklpgnneodaa
open Go.RowKit
theorem below_dn {B : Nat} {a w : World} (h : Below B a w) (n : Nat) : Below B a (w.drewN n) := h.trans ⟨rfl, rfl, rfl, Nat.le_refl _, fun _ _ => rfl⟩
attribute [local irreducible] World.cell?
end Go.Proofs.Ytckfklpgnneodaa
namespace Go.Proofs.Ytckfklpgnneodaa
open Go.RowKit
attribute [local irreducible] World.cell?
end Go.Proofs.Ytckfklpgnneodaa
namespace Go.Proofs.Ytckfklpgnneodaa
open Go.RowKit
attribute [local irreducible] World.cell?
end Go.Proofs.Ytckfklpgnneodaa
