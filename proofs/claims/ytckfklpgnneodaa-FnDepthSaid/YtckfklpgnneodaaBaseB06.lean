/- BaseB06: several of our texts in one: ApA ApP ApB TcG. -/
import Derived.Test.YtckfklpgnneodaaBaseB11
import Derived.Test.YtckfklpgnneodaaGtC
import Derived.Test.YtckfklpgnneodaaBaseB07
import Derived.Test.YtckfklpgnneodaaBaseB05
import Derived.Test.YtckfklpgnneodaaBaseB01
import Derived.OrdersHeld
import Derived.Test.YtckfklpgnneodaaBaseB08
namespace Go.Proofs.Ytckfklpgnneodaa
open Go.RowKit
def goesG (g : Gt) (i : Nat) : List (Nat × Dw) := goesL g.k g.a.toNat g.b.toNat g.c.toNat i
/-- A gate's box. -/
def G1 (w : World) (b : Nat) (g : Gt) (w' : World) : Prop := w'.cell? ⟨b, 0, none⟩ = some (.int .i64 g.k) ∧ w'.cell? ⟨b, 1, none⟩ = some (.int .i64 g.a) ∧ w'.cell? ⟨b, 2, none⟩ = some (.int .i64 g.b) ∧ w'.cell? ⟨b, 3, none⟩ = some (.int .i64 g.c) ∧ b < w'.heap.size ∧ Below w.heap.size w w'
theorem G1.drew {w w' : World} {b : Nat} {g : Gt} (h : G1 w b g w') : G1 w b g w'.drew := let ⟨b0, b1, b2, b3, z, l⟩ := h; ⟨b0, b1, b2, b3, z, l.drew⟩
theorem G1.below {w w1 w2 : World} {b : Nat} {g : Gt} (h : G1 w b g w1) (hb : Below w1.heap.size w1 w2) : G1 w b g w2 :=
  let ⟨b0, b1, b2, b3, z, l⟩ := h; ⟨cell_below b0 hb z, cell_below b1 hb z, cell_below b2 hb z, cell_below b3 hb z, Nat.lt_of_lt_of_le z hb.size, below_up l hb l.size⟩
theorem G1.low {w w' : World} {b : Nat} {g : Gt} (h : G1 w b g w') : Below w.heap.size w w' := let ⟨_, _, _, _, _, l⟩ := h; l
attribute [local irreducible] World.cell?
end Go.Proofs.Ytckfklpgnneodaa
namespace Go.Proofs.Ytckfklpgnneodaa
open Go.RowKit
end Go.Proofs.Ytckfklpgnneodaa
namespace Go.Proofs.Ytckfklpgnneodaa
open Go.RowKit
def H12 (w : World) (gv ov : Nat) (x : Dw) (gs os p : Nat) (y : Dw) (w' : World) : Prop := w'.cell? ⟨gv, ov, none⟩ = some (.int .i64 x.n.a) ∧ w'.cell? ⟨gv, ov + 1, none⟩ = some (.int .i64 x.n.b) ∧ w'.cell? ⟨gv, ov + 2, none⟩ = some (.int .i64 x.n.c) ∧ w'.cell? ⟨gv, ov + 3, none⟩ = some (.int .i64 x.n.d) ∧ w'.cell? ⟨gv, ov + 4, none⟩ = some (.int .i64 x.e) ∧ w'.cell? ⟨gs, os, none⟩ = some (.int .i64 (p : Int)) ∧ w'.cell? ⟨gs, os + 1, none⟩ = some (.int .i64 y.n.a) ∧ w'.cell? ⟨gs, os + 2, none⟩ = some (.int .i64 y.n.b) ∧ w'.cell? ⟨gs, os + 3, none⟩ = some (.int .i64 y.n.c) ∧ w'.cell? ⟨gs, os + 4, none⟩ = some (.int .i64 y.n.d) ∧ w'.cell? ⟨gs, os + 5, none⟩ = some (.int .i64 y.e) ∧ gv < w'.heap.size ∧ gs < w'.heap.size ∧ Below w.heap.size w w'
theorem H12.drew {w w1 : World} {gv ov : Nat} {x : Dw} {gs os p : Nat} {y : Dw} (h : H12 w gv ov x gs os p y w1) : H12 w gv ov x gs os p y w1.drew :=
  let ⟨c0, c1, c2, c3, c4, c5, c6, c7, c8, c9, c10, z0, z1, l⟩ := h; ⟨c0, c1, c2, c3, c4, c5, c6, c7, c8, c9, c10, z0, z1, l.drew⟩
theorem H12.below {w w1 w2 : World} {gv ov : Nat} {x : Dw} {gs os p : Nat} {y : Dw} (h : H12 w gv ov x gs os p y w1) (hb : Below w1.heap.size w1 w2) : H12 w gv ov x gs os p y w2 :=
  let ⟨c0, c1, c2, c3, c4, c5, c6, c7, c8, c9, c10, z0, z1, l⟩ := h
  ⟨cell_below c0 hb z0, cell_below c1 hb z0, cell_below c2 hb z0, cell_below c3 hb z0, cell_below c4 hb z0, cell_below c5 hb z1, cell_below c6 hb z1, cell_below c7 hb z1, cell_below c8 hb z1, cell_below c9 hb z1, cell_below c10 hb z1, Nat.lt_of_lt_of_le z0 hb.size, Nat.lt_of_lt_of_le z1 hb.size, below_up l hb l.size⟩
theorem H12.alloc {w w1 : World} {gv ov : Nat} {x : Dw} {gs os p : Nat} {y : Dw} (h : H12 w gv ov x gs os p y w1) (o : Obj) : H12 w gv ov x gs os p y (w1.alloc o) := h.below ((Below.refl _ _).alloc (Nat.le_refl _) o)
theorem H12.low {w w1 : World} {gv ov : Nat} {x : Dw} {gs os p : Nat} {y : Dw} (h : H12 w gv ov x gs os p y w1) : Below w.heap.size w w1 := let ⟨_, _, _, _, _, _, _, _, _, _, _, _, _, l⟩ := h; l
def H13 (w : World) (go po : Nat) (u : Dw) (gs os p : Nat) (q : Nat) (z : Dw) (w' : World) : Prop := w'.cell? ⟨go, po, none⟩ = some (.int .i64 u.n.a) ∧ w'.cell? ⟨go, po + 1, none⟩ = some (.int .i64 u.n.b) ∧ w'.cell? ⟨go, po + 2, none⟩ = some (.int .i64 u.n.c) ∧ w'.cell? ⟨go, po + 3, none⟩ = some (.int .i64 u.n.d) ∧ w'.cell? ⟨go, po + 4, none⟩ = some (.int .i64 u.e) ∧ w'.cell? ⟨gs, os, none⟩ = some (.int .i64 (p : Int)) ∧ w'.cell? ⟨q, 0, none⟩ = some (.int .i64 z.n.a) ∧ w'.cell? ⟨q, 1, none⟩ = some (.int .i64 z.n.b) ∧ w'.cell? ⟨q, 2, none⟩ = some (.int .i64 z.n.c) ∧ w'.cell? ⟨q, 3, none⟩ = some (.int .i64 z.n.d) ∧ w'.cell? ⟨q, 4, none⟩ = some (.int .i64 z.e) ∧ go < w'.heap.size ∧ gs < w'.heap.size ∧ q < w'.heap.size ∧ Below w.heap.size w w'
theorem H13.drew {w w1 : World} {go po : Nat} {u : Dw} {gs os p : Nat} {q : Nat} {z : Dw} (h : H13 w go po u gs os p q z w1) : H13 w go po u gs os p q z w1.drew :=
  let ⟨c0, c1, c2, c3, c4, c5, c6, c7, c8, c9, c10, z0, z1, z2, l⟩ := h; ⟨c0, c1, c2, c3, c4, c5, c6, c7, c8, c9, c10, z0, z1, z2, l.drew⟩
theorem H13.below {w w1 w2 : World} {go po : Nat} {u : Dw} {gs os p : Nat} {q : Nat} {z : Dw} (h : H13 w go po u gs os p q z w1) (hb : Below w1.heap.size w1 w2) : H13 w go po u gs os p q z w2 :=
  let ⟨c0, c1, c2, c3, c4, c5, c6, c7, c8, c9, c10, z0, z1, z2, l⟩ := h
  ⟨cell_below c0 hb z0, cell_below c1 hb z0, cell_below c2 hb z0, cell_below c3 hb z0, cell_below c4 hb z0, cell_below c5 hb z1, cell_below c6 hb z2, cell_below c7 hb z2, cell_below c8 hb z2, cell_below c9 hb z2, cell_below c10 hb z2, Nat.lt_of_lt_of_le z0 hb.size, Nat.lt_of_lt_of_le z1 hb.size, Nat.lt_of_lt_of_le z2 hb.size, below_up l hb l.size⟩
theorem H13.alloc {w w1 : World} {go po : Nat} {u : Dw} {gs os p : Nat} {q : Nat} {z : Dw} (h : H13 w go po u gs os p q z w1) (o : Obj) : H13 w go po u gs os p q z (w1.alloc o) := h.below ((Below.refl _ _).alloc (Nat.le_refl _) o)
theorem H13.low {w w1 : World} {go po : Nat} {u : Dw} {gs os p : Nat} {q : Nat} {z : Dw} (h : H13 w go po u gs os p q z w1) : Below w.heap.size w w1 := let ⟨_, _, _, _, _, _, _, _, _, _, _, _, _, _, l⟩ := h; l
attribute [local irreducible] World.cell?
end Go.Proofs.Ytckfklpgnneodaa
namespace Go.Proofs.Ytckfklpgnneodaa
theorem ciB_parts {n : Int} {L : List Gt} (h : ciB n L = true) : (∀ g ∈ L, gtB g n = true) ∧ (1 ≤ n ∧ n ≤ 4) ∧ L.length ≤ 60 := by
  unfold ciB at h
  simp only [Bool.and_eq_true, decide_eq_true_eq, List.all_eq_true] at h
  exact ⟨h.1, h.2.1, h.2.2⟩
theorem ciB_of {n : Int} {L : List Gt} (h1 : ∀ g ∈ L, gtB g n = true) (h2 : 1 ≤ n ∧ n ≤ 4) (h3 : L.length ≤ 60) : ciB n L = true := by
  unfold ciB
  simp only [Bool.and_eq_true, decide_eq_true_eq, List.all_eq_true]
  exact ⟨h1, h2, h3⟩
end Go.Proofs.Ytckfklpgnneodaa
