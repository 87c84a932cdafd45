/- Blocks of cells; worlds in which one block alone was written. -/
import Derived.Test.YtgknokaibgckkaaDoorRows
import Derived.WalkKit
import Derived.WalkSpells
import Derived.WalkLawsBesides
import Derived.Lib.Hide
import Derived.OneCell
import Derived.WalkSmall
namespace Go.Proofs.YtgknokaibgckkaaDoor
open Go.RowKit
/-- A block of cells: what each holds, that it may be written, what the block is behind a store. -/
theorem cell_at {w : World} {b : Nat} {cs : Array Value} {t : TypeId} (h : w.heap[b]? = some (.cells cs t (0, 0))) (o : Nat) (v : Value) (hv : cs[o]? = some v) : w.cell? ⟨b, o, none⟩ = some v := by
  simp [World.cell?, h, hv]
theorem free_at {w : World} {b : Nat} {cs : Array Value} {t : TypeId} (h : w.heap[b]? = some (.cells cs t (0, 0))) (o : Nat) : w.frozen? ⟨b, o, none⟩ = false := by
  simp [World.frozen?, h]
theorem heap_set {w : World} {b : Nat} {cs : Array Value} {t : TypeId} (h : w.heap[b]? = some (.cells cs t (0, 0))) (o : Nat) (u : Value) : (w.setCell ⟨b, o, none⟩ u).heap[b]? = some (.cells (cs.setIfInBounds o u) t (0, 0)) := by
  have hlt := lt_of_block h
  have h' : w.heap[b] = .cells cs t (0, 0) := by simpa [Array.getElem?_eq_getElem hlt] using h
  show (w.heap.modify b _)[b]? = _
  rw [Array.getElem?_eq_getElem (by simpa using hlt), Array.getElem_modify_self, h']
  rfl
/-- Only block B may have been written; new blocks may lie behind. -/
abbrev Own (B : Nat) (w w' : World) : Prop := w.grownBy w' (some B)
theorem own_refl (B : Nat) (w : World) : Own B w w := ⟨rfl, rfl, rfl, Nat.le_refl _, fun _ _ _ => rfl⟩
theorem own_trans {B : Nat} {a b c : World} (h : Own B a b) (k : Own B b c) : Own B a c :=
  ⟨k.os.trans h.os, k.tape.trans h.tape, k.output.trans h.output, Nat.le_trans h.size k.size, fun i hi hn => (k.block i (Nat.lt_of_lt_of_le hi h.size) hn).trans (h.block i hi hn)⟩
theorem own_set {B : Nat} {a w : World} (h : Own B a w) (o : Nat) (u : Value) : Own B a (w.setCell ⟨B, o, none⟩ u) :=
  own_trans h ⟨rfl, rfl, rfl, by simp [World.setCell], fun k _ hn => Below.heap_setCell _ _ _ _ (by intro e; exact hn (by rw [e]))⟩
theorem own_drew {B : Nat} {a w : World} (h : Own B a w) (n : Nat) : Own B a (w.drewN n) := own_trans h ⟨rfl, rfl, rfl, Nat.le_refl _, fun _ _ _ => rfl⟩
theorem own_alloc {B : Nat} {a w : World} (h : Own B a w) (o : Obj) : Own B a (w.alloc o) := own_trans h ⟨rfl, rfl, rfl, by simp, fun k hk _ => Below.heap_alloc _ _ _ hk⟩
theorem own_below {B : Nat} {a b c : World} (h : Below B a b) (k : Own B b c) (hB : B ≤ b.heap.size) : Below B a c :=
  h.grown k hB (fun k e => by cases e; exact Nat.le_refl _)
theorem below_own {B C : Nat} {a b c : World} (h : Below C a b) (k : Own B b c) (hB : C ≤ B) (hC : C ≤ b.heap.size) : Below C a c :=
  h.grown k hC (fun q e => by cases e; exact hB)
theorem own_of_below {B : Nat} {w w' : World} (h : Below w.heap.size w w') : Own B w w' := ⟨h.os, h.tape, h.output, h.size, fun k hk _ => h.block k hk⟩
end Go.Proofs.YtgknokaibgckkaaDoor
