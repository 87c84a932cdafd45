/- BaseB22: several of our texts in one: ZwDraw ZwDraw2 RwE. -/
import Derived.Test.YtgicldokglpimaaZwF
import Derived.Test.YtgicldokglpimaaZwB
import Derived.Test.YtgicldokglpimaaZwS
import Derived.Test.YtgicldokglpimaaBaseB02
import Derived.Lib.AppendStr
namespace Go.Proofs.Ytgicldokglpimaa
open Go.RowKit
attribute [local irreducible] World.cell?
/-- What a call leaves that writes into block B alone and makes memory: cells, marks and blocks of before. -/
theorem ogrow {B : Nat} {W w1 : World} (h : Own B W w1) : (∀ b o, b < W.heap.size → b ≠ B → w1.cell? ⟨b, o, none⟩ = W.cell? ⟨b, o, none⟩) ∧ (∀ b o, b < W.heap.size → b ≠ B → w1.frozen? ⟨b, o, none⟩ = W.frozen? ⟨b, o, none⟩) ∧ (∀ b, b < W.heap.size → b < w1.heap.size) := by
  refine ⟨fun b o hb hn => ?_, fun b o hb hn => ?_, fun b hb => Nat.lt_of_lt_of_le hb h.size⟩
  · exact World.cell?_of_block (w := W) (h.block b hb (by intro e; injection e with e; exact hn e))
  · have := h.block b hb (by intro e; injection e with e; exact hn e)
    simp only [World.frozen?, this]
theorem own_far {B : Nat} {a w : World} (h : Own B a w) {p : Addr} (hp : a.heap.size ≤ p.block) (u : Value) : Own B a (w.setCell p u) :=
  ⟨h.os, h.tape, h.output, by simpa [World.setCell] using h.size, fun k hk hn => (Below.heap_setCell _ _ _ _ (by omega)).trans (h.block k hk hn)⟩
theorem own_far4 {B g : Nat} {a w : World} {u0 u1 u2 u3 : Value} (h : Own B a w) (hp : a.heap.size ≤ g) : Own B a ((((w.setCell ⟨g, 0, none⟩ u0).setCell ⟨g, 1, none⟩ u1).setCell ⟨g, 2, none⟩ u2).setCell ⟨g, 3, none⟩ u3) :=
  own_far (own_far (own_far (own_far h (p := ⟨g, 0, none⟩) hp _) (p := ⟨g, 1, none⟩) hp _) (p := ⟨g, 2, none⟩) hp _) (p := ⟨g, 3, none⟩) hp _
theorem CurAt.far4 {B g : Nat} {w : World} {u0 u1 u2 u3 : Value} (h : CurAt w B) (hB : B < g) : CurAt ((((w.setCell ⟨g, 0, none⟩ u0).setCell ⟨g, 1, none⟩ u1).setCell ⟨g, 2, none⟩ u2).setCell ⟨g, 3, none⟩ u3) B :=
  h.own (own_set (own_set (own_set (own_set (own_refl g w) 0 u0) 1 u1) 2 u2) 3 u3) hB
theorem own_blk {B g : Nat} {W w1 : World} {o : Obj} (h : Own B W w1) (hn : g ≠ B) (hk : W.heap[g]? = some o) : w1.heap[g]? = some o := by
  rw [h.block g (lt_of_block hk) (by intro e; injection e with e; exact hn e)]; exact hk
theorem alloc_blk {g : Nat} {W : World} {o : Obj} (p : Obj) (hk : W.heap[g]? = some o) : (W.alloc p).heap[g]? = some o := by
  rw [Below.heap_alloc _ _ _ (lt_of_block hk)]; exact hk
theorem set4_cells {g : Nat} {W : World} {t : TypeId} {z0 z1 z2 z3 u0 u1 u2 u3 : Value} (h : W.heap[g]? = some (.cells #[z0, z1, z2, z3] t (0, 0))) :
    ((((W.setCell ⟨g, 0, none⟩ u0).setCell ⟨g, 1, none⟩ u1).setCell ⟨g, 2, none⟩ u2).setCell ⟨g, 3, none⟩ u3).cell? ⟨g, 0, none⟩ = some u0 ∧
    ((((W.setCell ⟨g, 0, none⟩ u0).setCell ⟨g, 1, none⟩ u1).setCell ⟨g, 2, none⟩ u2).setCell ⟨g, 3, none⟩ u3).cell? ⟨g, 1, none⟩ = some u1 ∧
    ((((W.setCell ⟨g, 0, none⟩ u0).setCell ⟨g, 1, none⟩ u1).setCell ⟨g, 2, none⟩ u2).setCell ⟨g, 3, none⟩ u3).cell? ⟨g, 2, none⟩ = some u2 ∧
    ((((W.setCell ⟨g, 0, none⟩ u0).setCell ⟨g, 1, none⟩ u1).setCell ⟨g, 2, none⟩ u2).setCell ⟨g, 3, none⟩ u3).cell? ⟨g, 3, none⟩ = some u3 := by
  have h4 := heap_set (heap_set (heap_set (heap_set h 0 u0) 1 u1) 2 u2) 3 u3
  exact ⟨cell_at h4 0 _ rfl, cell_at h4 1 _ rfl, cell_at h4 2 _ rfl, cell_at h4 3 _ rfl⟩
/-- An element is returned. -/
def ZRet (e : Ending) : Prop := ∃ x : Zw, e = .returned (.agg #[.int .i64 x.a, .int .i64 x.b, .int .i64 x.c, .int .i64 x.d])
theorem zret (a b c d : Int) : ZRet (.returned (.agg #[.int .i64 a, .int .i64 b, .int .i64 c, .int .i64 d])) := ⟨⟨a, b, c, d⟩, rfl⟩
def Z2Ret (e : Ending) : Prop := ∃ x y : Zw, e = .returned (.tuple #[(.agg #[.int .i64 x.a, .int .i64 x.b, .int .i64 x.c, .int .i64 x.d]), (.agg #[.int .i64 y.a, .int .i64 y.b, .int .i64 y.c, .int .i64 y.d])])
/-- The cells of a block read as a list. -/
theorem zlist_at {w : World} {b : Nat} {cs : Array Value} {t : TypeId} (h : w.heap[b]? = some (.cells cs t (0, 0))) (n : Nat) (f : Nat → Value) (hf : ∀ j, j < n → cs[j]? = some (f j)) : ListAt w b n f := fun j hj => cell_at h j _ (hf j hj)
/-- The lists of l2Zw. -/
def zlist1 : List Int := [0, 1, -1, 1073741824, -1073741824, 1073741825, 32768, 9223372036854775807, -9223372036854775808]
def zlist2 : List Int := [0, 1, 1073741824, 32768]
end Go.Proofs.Ytgicldokglpimaa
namespace Go.Proofs.Ytgicldokglpimaa
open Go.RowKit
attribute [local irreducible] World.cell?
theorem below_blk {B g : Nat} {W w1 : World} {o : Obj} (h : Below B W w1) (hg : g < B) (hk : W.heap[g]? = some o) : w1.heap[g]? = some o := by
  rw [h.block g hg]; exact hk
theorem set4_blk {g b : Nat} {W : World} {o : Obj} {u0 u1 u2 u3 : Value} (hn : b ≠ g) (h : W.heap[b]? = some o) :
    ((((W.setCell ⟨g, 0, none⟩ u0).setCell ⟨g, 1, none⟩ u1).setCell ⟨g, 2, none⟩ u2).setCell ⟨g, 3, none⟩ u3).heap[b]? = some o := by
  rw [Below.heap_setCell _ _ _ _ (by simpa using hn), Below.heap_setCell _ _ _ _ (by simpa using hn), Below.heap_setCell _ _ _ _ (by simpa using hn), Below.heap_setCell _ _ _ _ (by simpa using hn)]
  exact h
theorem set4_at {g : Nat} {W : World} {t : TypeId} {z0 z1 z2 z3 u0 u1 u2 u3 : Value} (h : W.heap[g]? = some (.cells #[z0, z1, z2, z3] t (0, 0))) :
    ((((W.setCell ⟨g, 0, none⟩ u0).setCell ⟨g, 1, none⟩ u1).setCell ⟨g, 2, none⟩ u2).setCell ⟨g, 3, none⟩ u3).heap[g]? = some (.cells #[u0, u1, u2, u3] t (0, 0)) :=
  heap_set (heap_set (heap_set (heap_set h 0 u0) 1 u1) 2 u2) 3 u3
theorem blk_cells {g : Nat} {W : World} {t : TypeId} {z0 z1 z2 z3 : Value} (h : W.heap[g]? = some (.cells #[z0, z1, z2, z3] t (0, 0))) :
    W.cell? ⟨g, 0, none⟩ = some z0 ∧ W.cell? ⟨g, 1, none⟩ = some z1 ∧ W.cell? ⟨g, 2, none⟩ = some z2 ∧ W.cell? ⟨g, 3, none⟩ = some z3 :=
  ⟨cell_at h 0 _ rfl, cell_at h 1 _ rfl, cell_at h 2 _ rfl, cell_at h 3 _ rfl⟩
theorem z2ret (a b c d p q r s : Int) : Z2Ret (.returned (.tuple #[.agg #[.int .i64 a, .int .i64 b, .int .i64 c, .int .i64 d], .agg #[.int .i64 p, .int .i64 q, .int .i64 r, .int .i64 s]])) := ⟨⟨a, b, c, d⟩, ⟨p, q, r, s⟩, rfl⟩
theorem size2 (w : World) (p q : Obj) : ((w.alloc p).alloc q).heap.size = w.heap.size + 1 + 1 := by simp
end Go.Proofs.Ytgicldokglpimaa
namespace Go.Proofs.Ytgicldokglpimaa
open Go.RowKit
/-- How an element lies in memory: its cells. -/
structure Enc (α : Type) where
  fl : α → List Value
  n : Nat
  ty : TypeId
  len : ∀ x, (fl x).length = n
  one : ∀ x, ∀ u ∈ fl x, u.oneCell' = true
namespace Enc
variable {α : Type} (E : Enc α)
/-- The cells of a row. -/
def flat (l : List α) : List Value := l.flatMap E.fl
theorem flat_cons (x : α) (l : List α) : E.flat (x :: l) = E.fl x ++ E.flat l := List.flatMap_cons
theorem flat_app (l m : List α) : E.flat (l ++ m) = E.flat l ++ E.flat m := List.flatMap_append
theorem flat_snoc (l : List α) (x : α) : E.flat l ++ E.fl x = E.flat (l ++ [x]) := by rw [flat_app, flat_cons]; simp [flat]
theorem flat_len : ∀ l : List α, (E.flat l).length = l.length * E.n
  | [] => by simp [flat]
  | x :: l => by rw [flat_cons, List.length_append, E.len, flat_len l, List.length_cons, Nat.succ_mul]; omega
theorem flat_plain : ∀ l : List α, ∀ u ∈ E.flat l, u.oneCell' = true
  | [], u, h => by simp [flat] at h
  | x :: l, u, h => by
    rw [flat_cons, List.mem_append] at h
    rcases h with h | h
    · exact E.one x u h
    · exact flat_plain l u h
theorem flat_at : ∀ {l : List α} {j : Nat} {x : α}, l[j]? = some x → ∀ k, k < E.n → (E.flat l)[j * E.n + k]? = (E.fl x)[k]?
  | [], j, x, h, k, hk => by simp at h
  | y :: l, 0, x, h, k, hk => by
    obtain rfl : y = x := by simpa using h
    rw [flat_cons, List.getElem?_append_left (by rw [E.len]; omega)]
    simp
  | y :: l, j + 1, x, h, k, hk => by
    rw [flat_cons, List.getElem?_append_right (by rw [E.len, Nat.succ_mul]; omega), E.len, show (j + 1) * E.n + k - E.n = j * E.n + k by rw [Nat.succ_mul]; omega]
    exact flat_at (by simpa using h) k hk
theorem flat_take : ∀ (l : List α) (k : Nat), E.flat (l.take k) = (E.flat l).take (k * E.n)
  | [], k => by simp [flat]
  | x :: l, 0 => by simp [flat]
  | x :: l, k + 1 => by
    have e : (E.fl x).take ((k + 1) * E.n) = E.fl x := List.take_of_length_le (by rw [E.len, Nat.succ_mul]; omega)
    rw [List.take_succ_cons, flat_cons, flat_cons, flat_take l k, List.take_append, E.len, e, show (k + 1) * E.n - E.n = k * E.n by rw [Nat.succ_mul]; omega]
/-- One cell of an element written. -/
theorem flat_set1 : ∀ {l : List α} {j : Nat} {x y : α} {o : Nat} {v : Value}, l[j]? = some x → o < E.n → (E.fl x).set o v = E.fl y → (E.flat l).set (j * E.n + o) v = E.flat (l.set j y)
  | [], j, x, y, o, v, h, _, _ => by simp at h
  | z :: l, 0, x, y, o, v, h, ho, hy => by
    obtain rfl : z = x := by simpa using h
    rw [flat_cons, List.set_append_left _ _ (by rw [E.len]; omega), List.set_cons_zero, flat_cons, Nat.zero_mul, Nat.zero_add, hy]
  | z :: l, j + 1, x, y, o, v, h, ho, hy => by
    rw [flat_cons, List.set_append_right _ _ (by rw [E.len, Nat.succ_mul]; omega), E.len, show (j + 1) * E.n + o - E.n = j * E.n + o by rw [Nat.succ_mul]; omega, flat_set1 (by simpa using h) ho hy, List.set_cons_succ, flat_cons]
/-- A row at the head of block g. -/
def Row (w : World) (g : Nat) (l : List α) : Prop := ∃ cs : Array Value, w.heap[g]? = some (.cells cs E.ty (0, 0)) ∧ cs.toList.take (l.length * E.n) = E.flat l
variable {E}
theorem Row.at {w : World} {g : Nat} {l : List α} (h : E.Row w g l) {j : Nat} {x : α} (hx : l[j]? = some x) {k : Nat} {v : Value} (hv : (E.fl x)[k]? = some v) : w.cell? ⟨g, j * E.n + k, none⟩ = some v := by
  obtain ⟨cs, h1, h2⟩ := h
  have hj : j < l.length := by
    rcases Nat.lt_or_ge j l.length with h' | h'
    · exact h'
    · rw [List.getElem?_eq_none h'] at hx; cases hx
  have hk : k < E.n := by
    rcases Nat.lt_or_ge k E.n with h' | h'
    · exact h'
    · rw [List.getElem?_eq_none (by rw [E.len]; exact h')] at hv; cases hv
  have e := E.flat_at hx k hk
  have hlt : j * E.n + k < l.length * E.n := by
    have : (j + 1) * E.n ≤ l.length * E.n := Nat.mul_le_mul_right _ hj
    rw [Nat.succ_mul] at this
    omega
  refine cell_at h1 _ _ ?_
  rw [← h2, List.getElem?_take, if_pos hlt, hv] at e
  rw [← Array.getElem?_toList]; exact e
theorem Row.free {w : World} {g : Nat} {l : List α} (h : E.Row w g l) (o : Nat) : w.frozen? ⟨g, o, none⟩ = false := by obtain ⟨cs, h1, _⟩ := h; exact free_at h1 o
theorem Row.lt {w : World} {g : Nat} {l : List α} (h : E.Row w g l) : g < w.heap.size := by obtain ⟨cs, h1, _⟩ := h; exact lt_of_block h1
theorem Row.block {w w' : World} {g : Nat} {l : List α} (h : E.Row w g l) (hb : w'.heap[g]? = w.heap[g]?) : E.Row w' g l := by obtain ⟨cs, h1, h2⟩ := h; exact ⟨cs, hb.trans h1, h2⟩
theorem Row.below {w w' : World} {g B : Nat} {l : List α} (h : E.Row w g l) (hb : Below B w w') (hB : g < B) : E.Row w' g l := h.block (hb.block g hB)
theorem Row.alloc {w : World} {g : Nat} {l : List α} (h : E.Row w g l) (o : Obj) : E.Row (w.alloc o) g l := h.block (Below.heap_alloc _ _ _ h.lt)
theorem Row.own {w w' : World} {g B : Nat} {l : List α} (h : E.Row w g l) (hb : Own B w w') (hB : g ≠ B) : E.Row w' g l :=
  h.block (hb.block g h.lt (by intro e; injection e with e; exact hB e))
theorem Row.take {w : World} {g : Nat} {l : List α} (h : E.Row w g l) (k : Nat) : E.Row w g (l.take k) := by
  obtain ⟨cs, h1, h2⟩ := h
  refine ⟨cs, h1, ?_⟩
  rw [E.flat_take, ← h2, List.take_take, List.length_take]
  by_cases hk : k ≤ l.length
  · rw [Nat.min_eq_left hk, Nat.min_eq_left (Nat.mul_le_mul_right _ hk)]
  · rw [Nat.min_eq_right (by omega), Nat.min_eq_right (Nat.mul_le_mul_right _ (by omega))]
/-- The row with one cell of an element written. -/
theorem Row.put1 {w : World} {g : Nat} {l : List α} (h : E.Row w g l) {j : Nat} {x y : α} {o : Nat} {v : Value} (hx : l[j]? = some x) (ho : o < E.n) (hy : (E.fl x).set o v = E.fl y) : E.Row (w.setCell ⟨g, j * E.n + o, none⟩ v) g (l.set j y) := by
  obtain ⟨cs, h1, h2⟩ := h
  refine ⟨_, heap_set h1 _ _, ?_⟩
  rw [List.length_set, ← E.flat_set1 hx ho hy, ← h2, Array.toList_setIfInBounds, List.take_set]
variable (E)
/-- A slice whose row, if it has one, lies at B or behind. -/
def Sl (w : World) (B : Nat) (v : Value) (l : List α) : Prop :=
  ∃ a cap, v = .slice a l.length cap ∧ l.length ≤ cap ∧ (0 < l.length → ∃ g, a = some ⟨g, 0, none⟩ ∧ B ≤ g ∧ E.Row w g l)
variable {E}
theorem Sl.block {w w' : World} {B : Nat} {v : Value} {l : List α} (h : E.Sl w B v l) (hb : ∀ g, B ≤ g → g < w.heap.size → w'.heap[g]? = w.heap[g]?) : E.Sl w' B v l := by
  obtain ⟨a, cap, h1, h2, h3⟩ := h
  exact ⟨a, cap, h1, h2, fun hl => by obtain ⟨g, e, hB, hr⟩ := h3 hl; exact ⟨g, e, hB, hr.block (hb g hB hr.lt)⟩⟩
theorem Sl.below {w w' : World} {B : Nat} {v : Value} {l : List α} (h : E.Sl w B v l) (hb : Below w.heap.size w w') : E.Sl w' B v l := h.block fun g _ hg => hb.block g hg
theorem Sl.mono {w : World} {B C : Nat} {v : Value} {l : List α} (h : E.Sl w B v l) (hc : C ≤ B) : E.Sl w C v l := by
  obtain ⟨a, cap, h1, h2, h3⟩ := h
  exact ⟨a, cap, h1, h2, fun hl => by obtain ⟨g, e, hB, hr⟩ := h3 hl; exact ⟨g, e, Nat.le_trans hc hB, hr⟩⟩
theorem Sl.own {w w' : World} {B C : Nat} {v : Value} {l : List α} (h : E.Sl w C v l) (ho : Own B w w') (hB : B < C) : E.Sl w' C v l :=
  h.block fun g hg hl => ho.block g hl (by intro e; injection e with e; omega)
theorem Sl.of_own {w : World} {B : Nat} {v : Value} {l : List α} (h : w.ownsRow B E.ty E.n v l.length (E.flat l)) : E.Sl w B v l := by
  rcases h.2 with ⟨rfl, h2⟩ | ⟨g, cap, cur, hv, hb, hg, hn, hc, hs, ht⟩
  · exact ⟨none, 0, by rw [h2], by omega, fun h => absurd h (by omega)⟩
  · exact ⟨_, cap, hv, hn, fun _ => ⟨g, rfl, hb, cur, hg, ht⟩⟩
theorem Sl.mk {w : World} {B g n cap : Nat} {l : List α} (hn : n = l.length) (hc : n ≤ cap) (hB : B ≤ g) (hr : E.Row w g l) : E.Sl w B (.slice (some ⟨g, 0, none⟩) n cap) l := by
  subst hn; exact ⟨_, _, rfl, hc, fun _ => ⟨g, rfl, hB, hr⟩⟩
theorem Sl.nil {w : World} {B cap : Nat} {a : Option Addr} : E.Sl w B (.slice a 0 cap) [] := ⟨_, _, rfl, Nat.zero_le _, fun h => absurd h (by simp)⟩
/-- A row of one element, made anew. -/
theorem new_row (w : World) (x : α) (cs : Array Value) (h : cs.toList = E.fl x) : ∀ j u, (E.fl x)[j]? = some u → (w.alloc (.cells cs E.ty)).cell? ((⟨w.heap.size, 0, none⟩ : Addr).add j) = some u := by
  intro j u hj
  have ha : (⟨w.heap.size, 0, none⟩ : Addr).add j = ⟨w.heap.size, j, none⟩ := by
    unfold Addr.add
    by_cases h0 : j = 0
    · simp [h0]
    · simp [h0]
  rw [ha]
  exact cell_at (heap_alloc_new w _) _ _ (by rw [← Array.getElem?_toList, h]; exact hj)
theorem own_nil {w : World} {n : Nat} (h : n = w.heap.size) : (w.alloc (.cells #[] E.ty)).ownsRow n E.ty E.n (.slice (some ⟨n, 0, none⟩) 0 0) 0 (E.flat []) := by
  subst h; exact World.ownsRow_lit w #[] 0 (Nat.le_refl _) (Nat.zero_le _) (by simp)
end Enc
/-- Integers, a cell each. -/
def intE : Enc Int := ⟨fun i => [.int .i64 i], 1, 3, fun _ => rfl, fun x u h => by simp at h; subst h; rfl⟩
theorem IRow.cell {w : World} {g : Nat} {l : List Int} (h : intE.Row w g l) {j : Nat} {x : Int} (hx : l[j]? = some x) : w.cell? ⟨g, j, none⟩ = some (.int .i64 x) := by
  have := h.at hx (k := 0) (v := .int .i64 x) rfl
  simpa [intE] using this
theorem intE_src {w : World} {g : Nat} {l : List Int} (h : intE.Row w g l) : ∀ j u, (intE.flat l)[j]? = some u → w.cell? ((⟨g, 0, none⟩ : Addr).add j) = some u := by
  intro j u hj
  have ha : (⟨g, 0, none⟩ : Addr).add j = ⟨g, j, none⟩ := by
    unfold Addr.add
    by_cases h0 : j = 0
    · simp [h0]
    · simp [h0]
  have hl : j < l.length := by
    rcases Nat.lt_or_ge j l.length with h' | h'
    · exact h'
    · rw [List.getElem?_eq_none (by rw [intE.flat_len]; simpa [intE] using h')] at hj; cases hj
  have e := intE.flat_at (List.getElem?_eq_getElem hl) 0 (by decide)
  rw [show j * intE.n + 0 = j from by simp [intE], hj] at e
  rw [ha, IRow.cell h (List.getElem?_eq_getElem hl)]
  exact e.symm
theorem IRow.put {w : World} {g : Nat} {l : List Int} (h : intE.Row w g l) {j : Nat} (hj : j < l.length) (y : Int) : intE.Row (w.setCell ⟨g, j, none⟩ (.int .i64 y)) g (l.set j y) := by
  have := h.put1 (j := j) (x := l[j]) (y := y) (o := 0) (v := .int .i64 y) (List.getElem?_eq_getElem hj) (by simp [intE]) rfl
  simpa [intE] using this
end Go.Proofs.Ytgicldokglpimaa
