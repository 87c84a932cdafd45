/- BaseB12: several of our texts in one: DsD DsE DsN. -/
import Derived.Test.YtlmiebeffdcfhaaDsC
import Derived.Test.YtlmiebeffdcfhaaBaseB06
import Derived.Test.YtlmiebeffdcfhaaBaseB18
namespace Go.Proofs.Ytlmiebeffdcfhaa
open Go.RowKit
theorem row_own {w w' : World} {base B : Nat} {e : TypeId} {size : Nat} {v : Value} {n : Nat} {xs : List Value} (h : w.ownsRow base e size v n xs) (ho : Own B w w') (hB : B < base) : w'.ownsRow base e size v n xs := by
  obtain ⟨h1, h2⟩ := h
  refine ⟨h1, ?_⟩
  rcases h2 with h2 | ⟨g, cap, cur, a, b, c, d⟩
  · exact .inl h2
  · exact .inr ⟨g, cap, cur, a, b, by rw [ho.block g (lt_of_block c) (by intro e; injection e with e; omega)]; exact c, d⟩
theorem DSl.own {w w' : World} {B C : Nat} {v : Value} {l : List Dw} (h : DSl w C v l) (ho : Own B w w') (hB : B < C) : DSl w' C v l :=
  h.block fun g hg hl => ho.block g hl (by intro e; injection e with e; omega)
/-- The exponents of a row are machine integers. -/
def Eb (l : List Dw) : Prop := ∀ x ∈ l, -9223372036854775808 ≤ x.e ∧ x.e ≤ 9223372036854775807
theorem Eb.snoc {l : List Dw} {x : Dw} (h : Eb l) (hx : -9223372036854775808 ≤ x.e ∧ x.e ≤ 9223372036854775807) : Eb (l ++ [x]) := by
  intro y hy
  rcases List.mem_append.1 hy with hy | hy
  · exact h y hy
  · obtain rfl : y = x := by simpa using hy
    exact hx
theorem Eb.set {l : List Dw} {x : Dw} (h : Eb l) (j : Nat) (hx : -9223372036854775808 ≤ x.e ∧ x.e ≤ 9223372036854775807) : Eb (l.set j x) := by
  intro y hy
  rcases List.mem_or_eq_of_mem_set hy with hy | rfl
  · exact h y hy
  · exact hx
theorem Eb.take {l : List Dw} (h : Eb l) (j : Nat) : Eb (l.take j) := fun y hy => h y (List.mem_of_mem_take hy)
theorem own_grown {B : Nat} {a W w4 : World} {row : Option Nat} (h : Own B a W) (hg : W.grownBy w4 row) (hr : ∀ k, row = some k → a.heap.size ≤ k) : Own B a w4 :=
  ⟨hg.os.trans h.os, hg.tape.trans h.tape, hg.output.trans h.output, Nat.le_trans h.size hg.size, fun i hi hn => (hg.block i (Nat.lt_of_lt_of_le hi h.size) (by intro e; have := hr i e.symm; omega)).trans (h.block i hi hn)⟩
theorem row_set5 {w : World} {base : Nat} {e : TypeId} {size : Nat} {v : Value} {n g : Nat} {xs : List Value} {u0 u1 u2 u3 u4 : Value} (h : w.ownsRow base e size v n xs) (hn : ∀ k, v.ownBlock = some k → k ≠ g) :
    (((((w.setCell ⟨g, 0, none⟩ u0).setCell ⟨g, 1, none⟩ u1).setCell ⟨g, 2, none⟩ u2).setCell ⟨g, 3, none⟩ u3).setCell ⟨g, 4, none⟩ u4).ownsRow base e size v n xs := by
  obtain ⟨h1, h2⟩ := h
  refine ⟨h1, ?_⟩
  rcases h2 with h2 | ⟨k, cap, cur, rfl, b, c, d⟩
  · exact .inl h2
  · exact .inr ⟨k, cap, cur, rfl, b, set5_blk (hn k rfl) c, d⟩
theorem flat_snoc (l : List Dw) (y : Dw) : flat l ++ fl y = flat (l ++ [y]) := by rw [flat_app]; simp [flat]
theorem zero_eb : -9223372036854775808 ≤ Dw.zero.e ∧ Dw.zero.e ≤ 9223372036854775807 := by decide
theorem own_dn {B : Nat} {a w : World} (h : Own B a w) (o : Nat) (u : Value) {k : Nat} (hk : a.heap.size ≤ k) : Own B a (w.setCell ⟨k, o, none⟩ u) :=
  ⟨h.os, h.tape, h.output, by simpa [World.setCell] using h.size, fun i hi hn => (Below.heap_setCell _ _ _ _ (by show i ≠ k; omega)).trans (h.block i hi hn)⟩
attribute [local irreducible] World.cell?
end Go.Proofs.Ytlmiebeffdcfhaa
namespace Go.Proofs.Ytlmiebeffdcfhaa
open Go.RowKit
theorem below_dn {B : Nat} {a w : World} (h : Below B a w) (n : Nat) : Below B a (w.drewN n) := h.trans ⟨rfl, rfl, rfl, Nat.le_refl _, fun _ _ => rfl⟩
theorem eq_take {a b : List Dw} (_ : a.length = b.length) {j : Nat} {x y : Dw} (hx : a[j]? = some x) (hy : b[j]? = some y) (h : a.take j = b.take j) (hxy : x = y) : a.take (j + 1) = b.take (j + 1) := by
  rw [List.take_add_one, List.take_add_one, h, hx, hy, hxy]
attribute [local irreducible] World.cell?
end Go.Proofs.Ytlmiebeffdcfhaa
namespace Go.Proofs.Ytlmiebeffdcfhaa
open Go.RowKit
theorem DsIn.mono {w : World} {B C : Nat} {a0 : Option Addr} {l : List Dw} (h : DsIn w B a0 l) (hC : B ≤ C) : DsIn w C a0 l :=
  ⟨h.1, h.2.1, fun h0 => by obtain ⟨b, off, e, hlt, hc⟩ := h.2.2 h0; exact ⟨b, off, e, by omega, hc⟩⟩
theorem DsIn.eb {w : World} {B : Nat} {a0 : Option Addr} {l : List Dw} (h : DsIn w B a0 l) : Eb l := h.2.1
theorem toDsB (a0 : Option Addr) (cap B : Nat) (l : List Dw) (w : World) (hin : DsIn w B a0 l) (hB : B ≤ w.heap.size) (hn2 : l.length ≤ 1048576) :
    Calls Try.prog 38 #[.slice a0 l.length cap] w fun e w' => ∃ v, e = .returned v ∧ DSl w' w.heap.size v l ∧ Below w.heap.size w w' := toDs a0 cap l w (hin.mono hB) hn2
theorem szFit (a0 : Option Addr) (n cap : Nat) (l : Int) (w : World) (h : (n : Int) ≤ l) (l0 : 0 ≤ l) (l1 : l ≤ 1048576) :
    Calls Try.prog 34 #[.slice a0 n cap, .int .i64 l] w fun e w' => e = .returned (.int .i64 (l - n)) ∧ w = w' := by
  have h2 := szDs a0 n cap l w (by unfold maxLen; omega) l0 l1
  rwa [if_pos h] at h2
theorem szBig (a0 : Option Addr) (n cap : Nat) (l : Int) (w : World) (hn : n ≤ maxLen) (h : ¬ (n : Int) ≤ l) (l0 : 0 ≤ l) (l1 : l ≤ 1048576) :
    Calls Try.prog 34 #[.slice a0 n cap, .int .i64 l] w fun e w' => e = .returned (.int .i64 (-1)) ∧ w = w' := by
  have h2 := szDs a0 n cap l w hn l0 l1
  rwa [if_neg h] at h2
theorem mark1 (B C : Nat) (v : Value) (l : List Dw) (w : World) (hv : DSc w B C v l) (hm : l.length ≤ 1048576) :
    Calls Try.prog 45 #[v, .int .i64 1] w fun e w' => e = .returned (.int .i64 (1 + (l.length : Int) * 5)) ∧ DSc w' B C v (marks 1 l.length) ∧ Mid B C w w' := by
  refine (markDs B C 1 v l w hv hm (by omega)).mono ?_
  rintro e w1 ⟨rfl, h⟩
  exact ⟨by simp, h⟩
theorem mark2 (B C m : Nat) (v : Value) (l : List Dw) (w : World) (hv : DSc w B C v l) (hm : l.length ≤ 1048576) (hm' : m ≤ 1048576) :
    Calls Try.prog 45 #[v, .int .i64 (1 + (m : Int) * 5)] w fun e w' => e = .returned (.int .i64 (1 + (m : Int) * 5 + (l.length : Int) * 5)) ∧ DSc w' B C v (marks (1 + m * 5) l.length) ∧ Mid B C w w' := by
  have h := markDs B C (1 + m * 5) v l w hv hm (by omega)
  rw [show ((1 + m * 5 : Nat) : Int) = 1 + (m : Int) * 5 by simp] at h
  refine h.mono ?_
  rintro e w1 ⟨rfl, h⟩
  exact ⟨by simp, h⟩
theorem held1 (B n : Nat) (v : Value) (w : World) (hv : DSl w B v (marks 1 n)) (hm : n ≤ 1048576) :
    Calls Try.prog 46 #[v, .int .i64 1] w fun e w' => e = .returned (.int .i64 (1 + (n : Int) * 5)) ∧ w = w' := by
  refine (heldDs B 1 n v w hv hm (by omega)).mono ?_
  rintro e w1 ⟨rfl, h⟩
  exact ⟨by simp, h⟩
theorem mid_low {B C : Nat} {a w w' : World} (h : Below a.heap.size a w) (m : Mid B C w w') (hB : a.heap.size ≤ B) : Below a.heap.size a w' := h.trans (m.1.mono hB)
end Go.Proofs.Ytlmiebeffdcfhaa
