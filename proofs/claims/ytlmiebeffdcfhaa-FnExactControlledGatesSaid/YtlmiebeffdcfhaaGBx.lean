/- A gate's box in a drawn region. -/
import Derived.Test.YtlmiebeffdcfhaaBaseB11
namespace Go.Proofs.Ytlmiebeffdcfhaa
open Go.RowKit
/-- A gate's box. -/
def GBx (w : World) (B : Nat) (g : Gt) (w' : World) : Prop := w'.cell? ⟨B, 0, none⟩ = some (.int .i64 g.k) ∧ w'.cell? ⟨B, 1, none⟩ = some (.int .i64 g.a) ∧ w'.cell? ⟨B, 2, none⟩ = some (.int .i64 g.b) ∧ w'.cell? ⟨B, 3, none⟩ = some (.int .i64 g.c) ∧ B < w'.heap.size ∧ Below w.heap.size w w'
theorem GBx.drew {w w1 : World} {B : Nat} {g : Gt} (h : GBx w B g w1) : GBx w B g w1.drew :=
  let ⟨c0, c1, c2, c3, z, l⟩ := h; ⟨c0, c1, c2, c3, z, l.drew⟩
theorem GBx.below {w w1 w2 : World} {B : Nat} {g : Gt} (h : GBx w B g w1) (hb : Below w1.heap.size w1 w2) : GBx w B g w2 :=
  let ⟨c0, c1, c2, c3, z, l⟩ := h; ⟨cell_below c0 hb z, cell_below c1 hb z, cell_below c2 hb z, cell_below c3 hb z, Nat.lt_of_lt_of_le z hb.size, below_up l hb l.size⟩
theorem GBx.alloc {w w1 : World} {B : Nat} {g : Gt} {o : Obj} (h : GBx w B g w1) : GBx w B g (w1.alloc o) :=
  let ⟨c0, c1, c2, c3, z0, l⟩ := h
  have e : ∀ k, (w1.alloc o).cell? ⟨B, k, none⟩ = w1.cell? ⟨B, k, none⟩ := fun k => (Below.refl w1.heap.size w1).alloc (Nat.le_refl _) o |>.cell (by exact z0)
  ⟨(e 0).trans c0, (e 1).trans c1, (e 2).trans c2, (e 3).trans c3, by simp; omega, l.alloc l.size o⟩
end Go.Proofs.Ytlmiebeffdcfhaa
