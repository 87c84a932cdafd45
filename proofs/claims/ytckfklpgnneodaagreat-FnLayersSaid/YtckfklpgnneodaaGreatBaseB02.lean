/- BaseB02: several of our texts in one: ZwDraw ZwDraw2 RwE DwV DwW. -/
import Derived.Test.YtckfklpgnneodaaGreatZwF
import Derived.Test.YtckfklpgnneodaaGreatZwB
import Derived.Test.YtckfklpgnneodaaGreatZwS
import Derived.Test.YtckfklpgnneodaaGreatBaseB01
import Derived.Lib.AppendStr
import Derived.Test.YtckfklpgnneodaaGreatBaseB15
import Derived.Laws.StructEq
namespace Go.Proofs.YtckfklpgnneodaaGreat
open Go.RowKit
attribute [local irreducible] World.cell?
theorem own_blk {B g : Nat} {W w1 : World} {o : Obj} (h : Own B W w1) (hn : g ≠ B) (hk : W.heap[g]? = some o) : w1.heap[g]? = some o := by
  rw [h.block g (lt_of_block hk) (by intro e; injection e with e; exact hn e)]; exact hk
theorem alloc_blk {g : Nat} {W : World} {o : Obj} (p : Obj) (hk : W.heap[g]? = some o) : (W.alloc p).heap[g]? = some o := by
  rw [Below.heap_alloc _ _ _ (lt_of_block hk)]; exact hk
/-- The cells of a block read as a list. -/
theorem zlist_at {w : World} {b : Nat} {cs : Array Value} {t : TypeId} (h : w.heap[b]? = some (.cells cs t (0, 0))) (n : Nat) (f : Nat → Value) (hf : ∀ j, j < n → cs[j]? = some (f j)) : ListAt w b n f := fun j hj => cell_at h j _ (hf j hj)
end Go.Proofs.YtckfklpgnneodaaGreat
namespace Go.Proofs.YtckfklpgnneodaaGreat
open Go.RowKit
attribute [local irreducible] World.cell?
theorem below_blk {B g : Nat} {W w1 : World} {o : Obj} (h : Below B W w1) (hg : g < B) (hk : W.heap[g]? = some o) : w1.heap[g]? = some o := by
  rw [h.block g hg]; exact hk
theorem set4_blk {g b : Nat} {W : World} {o : Obj} {u0 u1 u2 u3 : Value} (hn : b ≠ g) (h : W.heap[b]? = some o) :
    ((((W.setCell ⟨g, 0, none⟩ u0).setCell ⟨g, 1, none⟩ u1).setCell ⟨g, 2, none⟩ u2).setCell ⟨g, 3, none⟩ u3).heap[b]? = some o := by
  rw [Below.heap_setCell _ _ _ _ (by simpa using hn), Below.heap_setCell _ _ _ _ (by simpa using hn), Below.heap_setCell _ _ _ _ (by simpa using hn), Below.heap_setCell _ _ _ _ (by simpa using hn)]
  exact h
theorem set4_at {g : Nat} {W : World} {t : TypeId} {z0 z1 z2 z3 u0 u1 u2 u3 : Value} (h : W.heap[g]? = some (.cells #[z0, z1, z2, z3] t (0, 0))) :
    ((((W.setCell ⟨g, 0, none⟩ u0).setCell ⟨g, 1, none⟩ u1).setCell ⟨g, 2, none⟩ u2).setCell ⟨g, 3, none⟩ u3).heap[g]? = some (.cells #[u0, u1, u2, u3] t (0, 0)) :=
  heap_set (heap_set (heap_set (heap_set h 0 u0) 1 u1) 2 u2) 3 u3
theorem blk_cells {g : Nat} {W : World} {t : TypeId} {z0 z1 z2 z3 : Value} (h : W.heap[g]? = some (.cells #[z0, z1, z2, z3] t (0, 0))) :
    W.cell? ⟨g, 0, none⟩ = some z0 ∧ W.cell? ⟨g, 1, none⟩ = some z1 ∧ W.cell? ⟨g, 2, none⟩ = some z2 ∧ W.cell? ⟨g, 3, none⟩ = some z3 :=
  ⟨cell_at h 0 _ rfl, cell_at h 1 _ rfl, cell_at h 2 _ rfl, cell_at h 3 _ rfl⟩
theorem size2 (w : World) (p q : Obj) : ((w.alloc p).alloc q).heap.size = w.heap.size + 1 + 1 := by simp
end Go.Proofs.YtckfklpgnneodaaGreat
namespace Go.Proofs.YtckfklpgnneodaaGreat
open Go.RowKit
/-- How an element lies in memory: its cells. -/
structure Enc (α : Type) where
  fl : α → List Value
  n : Nat
  ty : TypeId
  len : ∀ x, (fl x).length = n
  one : ∀ x, ∀ u ∈ fl x, u.oneCell' = true
namespace Enc
variable {α : Type} (E : Enc α)
/-- The cells of a row. -/
def flat (l : List α) : List Value := l.flatMap E.fl
theorem flat_cons (x : α) (l : List α) : E.flat (x :: l) = E.fl x ++ E.flat l := List.flatMap_cons
theorem flat_app (l m : List α) : E.flat (l ++ m) = E.flat l ++ E.flat m := List.flatMap_append
theorem flat_snoc (l : List α) (x : α) : E.flat l ++ E.fl x = E.flat (l ++ [x]) := by rw [flat_app, flat_cons]; simp [flat]
theorem flat_len : ∀ l : List α, (E.flat l).length = l.length * E.n
  | [] => by simp [flat]
  | x :: l => by rw [flat_cons, List.length_append, E.len, flat_len l, List.length_cons, Nat.succ_mul]; omega
theorem flat_plain : ∀ l : List α, ∀ u ∈ E.flat l, u.oneCell' = true
  | [], u, h => by simp [flat] at h
  | x :: l, u, h => by
    rw [flat_cons, List.mem_append] at h
    rcases h with h | h
    · exact E.one x u h
    · exact flat_plain l u h
theorem flat_at : ∀ {l : List α} {j : Nat} {x : α}, l[j]? = some x → ∀ k, k < E.n → (E.flat l)[j * E.n + k]? = (E.fl x)[k]?
  | [], j, x, h, k, hk => by simp at h
  | y :: l, 0, x, h, k, hk => by
    obtain rfl : y = x := by simpa using h
    rw [flat_cons, List.getElem?_append_left (by rw [E.len]; omega)]
    simp
  | y :: l, j + 1, x, h, k, hk => by
    rw [flat_cons, List.getElem?_append_right (by rw [E.len, Nat.succ_mul]; omega), E.len, show (j + 1) * E.n + k - E.n = j * E.n + k by rw [Nat.succ_mul]; omega]
    exact flat_at (by simpa using h) k hk
theorem flat_take : ∀ (l : List α) (k : Nat), E.flat (l.take k) = (E.flat l).take (k * E.n)
  | [], k => by simp [flat]
  | x :: l, 0 => by simp [flat]
  | x :: l, k + 1 => by
    have e : (E.fl x).take ((k + 1) * E.n) = E.fl x := List.take_of_length_le (by rw [E.len, Nat.succ_mul]; omega)
    rw [List.take_succ_cons, flat_cons, flat_cons, flat_take l k, List.take_append, E.len, e, show (k + 1) * E.n - E.n = k * E.n by rw [Nat.succ_mul]; omega]
/-- One cell of an element written. -/
theorem flat_set1 : ∀ {l : List α} {j : Nat} {x y : α} {o : Nat} {v : Value}, l[j]? = some x → o < E.n → (E.fl x).set o v = E.fl y → (E.flat l).set (j * E.n + o) v = E.flat (l.set j y)
  | [], j, x, y, o, v, h, _, _ => by simp at h
  | z :: l, 0, x, y, o, v, h, ho, hy => by
    obtain rfl : z = x := by simpa using h
    rw [flat_cons, List.set_append_left _ _ (by rw [E.len]; omega), List.set_cons_zero, flat_cons, Nat.zero_mul, Nat.zero_add, hy]
  | z :: l, j + 1, x, y, o, v, h, ho, hy => by
    rw [flat_cons, List.set_append_right _ _ (by rw [E.len, Nat.succ_mul]; omega), E.len, show (j + 1) * E.n + o - E.n = j * E.n + o by rw [Nat.succ_mul]; omega, flat_set1 (by simpa using h) ho hy, List.set_cons_succ, flat_cons]
/-- A row at the head of block g. -/
def Row (w : World) (g : Nat) (l : List α) : Prop := ∃ cs : Array Value, w.heap[g]? = some (.cells cs E.ty (0, 0)) ∧ cs.toList.take (l.length * E.n) = E.flat l
variable {E}
theorem Row.at {w : World} {g : Nat} {l : List α} (h : E.Row w g l) {j : Nat} {x : α} (hx : l[j]? = some x) {k : Nat} {v : Value} (hv : (E.fl x)[k]? = some v) : w.cell? ⟨g, j * E.n + k, none⟩ = some v := by
  obtain ⟨cs, h1, h2⟩ := h
  have hj : j < l.length := by
    rcases Nat.lt_or_ge j l.length with h' | h'
    · exact h'
    · rw [List.getElem?_eq_none h'] at hx; cases hx
  have hk : k < E.n := by
    rcases Nat.lt_or_ge k E.n with h' | h'
    · exact h'
    · rw [List.getElem?_eq_none (by rw [E.len]; exact h')] at hv; cases hv
  have e := E.flat_at hx k hk
  have hlt : j * E.n + k < l.length * E.n := by
    have : (j + 1) * E.n ≤ l.length * E.n := Nat.mul_le_mul_right _ hj
    rw [Nat.succ_mul] at this
    omega
  refine cell_at h1 _ _ ?_
  rw [← h2, List.getElem?_take, if_pos hlt, hv] at e
  rw [← Array.getElem?_toList]; exact e
theorem Row.free {w : World} {g : Nat} {l : List α} (h : E.Row w g l) (o : Nat) : w.frozen? ⟨g, o, none⟩ = false := by obtain ⟨cs, h1, _⟩ := h; exact free_at h1 o
theorem Row.lt {w : World} {g : Nat} {l : List α} (h : E.Row w g l) : g < w.heap.size := by obtain ⟨cs, h1, _⟩ := h; exact lt_of_block h1
theorem Row.block {w w' : World} {g : Nat} {l : List α} (h : E.Row w g l) (hb : w'.heap[g]? = w.heap[g]?) : E.Row w' g l := by obtain ⟨cs, h1, h2⟩ := h; exact ⟨cs, hb.trans h1, h2⟩
theorem Row.below {w w' : World} {g B : Nat} {l : List α} (h : E.Row w g l) (hb : Below B w w') (hB : g < B) : E.Row w' g l := h.block (hb.block g hB)
theorem Row.alloc {w : World} {g : Nat} {l : List α} (h : E.Row w g l) (o : Obj) : E.Row (w.alloc o) g l := h.block (Below.heap_alloc _ _ _ h.lt)
theorem Row.own {w w' : World} {g B : Nat} {l : List α} (h : E.Row w g l) (hb : Own B w w') (hB : g ≠ B) : E.Row w' g l :=
  h.block (hb.block g h.lt (by intro e; injection e with e; exact hB e))
theorem Row.take {w : World} {g : Nat} {l : List α} (h : E.Row w g l) (k : Nat) : E.Row w g (l.take k) := by
  obtain ⟨cs, h1, h2⟩ := h
  refine ⟨cs, h1, ?_⟩
  rw [E.flat_take, ← h2, List.take_take, List.length_take]
  by_cases hk : k ≤ l.length
  · rw [Nat.min_eq_left hk, Nat.min_eq_left (Nat.mul_le_mul_right _ hk)]
  · rw [Nat.min_eq_right (by omega), Nat.min_eq_right (Nat.mul_le_mul_right _ (by omega))]
/-- The row with one cell of an element written. -/
theorem Row.put1 {w : World} {g : Nat} {l : List α} (h : E.Row w g l) {j : Nat} {x y : α} {o : Nat} {v : Value} (hx : l[j]? = some x) (ho : o < E.n) (hy : (E.fl x).set o v = E.fl y) : E.Row (w.setCell ⟨g, j * E.n + o, none⟩ v) g (l.set j y) := by
  obtain ⟨cs, h1, h2⟩ := h
  refine ⟨_, heap_set h1 _ _, ?_⟩
  rw [List.length_set, ← E.flat_set1 hx ho hy, ← h2, Array.toList_setIfInBounds, List.take_set]
variable (E)
/-- A slice whose row, if it has one, lies at B or behind. -/
def Sl (w : World) (B : Nat) (v : Value) (l : List α) : Prop :=
  ∃ a cap, v = .slice a l.length cap ∧ l.length ≤ cap ∧ (0 < l.length → ∃ g, a = some ⟨g, 0, none⟩ ∧ B ≤ g ∧ E.Row w g l)
variable {E}
theorem Sl.block {w w' : World} {B : Nat} {v : Value} {l : List α} (h : E.Sl w B v l) (hb : ∀ g, B ≤ g → g < w.heap.size → w'.heap[g]? = w.heap[g]?) : E.Sl w' B v l := by
  obtain ⟨a, cap, h1, h2, h3⟩ := h
  exact ⟨a, cap, h1, h2, fun hl => by obtain ⟨g, e, hB, hr⟩ := h3 hl; exact ⟨g, e, hB, hr.block (hb g hB hr.lt)⟩⟩
theorem Sl.below {w w' : World} {B : Nat} {v : Value} {l : List α} (h : E.Sl w B v l) (hb : Below w.heap.size w w') : E.Sl w' B v l := h.block fun g _ hg => hb.block g hg
theorem Sl.mono {w : World} {B C : Nat} {v : Value} {l : List α} (h : E.Sl w B v l) (hc : C ≤ B) : E.Sl w C v l := by
  obtain ⟨a, cap, h1, h2, h3⟩ := h
  exact ⟨a, cap, h1, h2, fun hl => by obtain ⟨g, e, hB, hr⟩ := h3 hl; exact ⟨g, e, Nat.le_trans hc hB, hr⟩⟩
theorem Sl.own {w w' : World} {B C : Nat} {v : Value} {l : List α} (h : E.Sl w C v l) (ho : Own B w w') (hB : B < C) : E.Sl w' C v l :=
  h.block fun g hg hl => ho.block g hl (by intro e; injection e with e; omega)
theorem Sl.of_own {w : World} {B : Nat} {v : Value} {l : List α} (h : w.ownsRow B E.ty E.n v l.length (E.flat l)) : E.Sl w B v l := by
  rcases h.2 with ⟨rfl, h2⟩ | ⟨g, cap, cur, hv, hb, hg, hn, hc, hs, ht⟩
  · exact ⟨none, 0, by rw [h2], by omega, fun h => absurd h (by omega)⟩
  · exact ⟨_, cap, hv, hn, fun _ => ⟨g, rfl, hb, cur, hg, ht⟩⟩
theorem Sl.mk {w : World} {B g n cap : Nat} {l : List α} (hn : n = l.length) (hc : n ≤ cap) (hB : B ≤ g) (hr : E.Row w g l) : E.Sl w B (.slice (some ⟨g, 0, none⟩) n cap) l := by
  subst hn; exact ⟨_, _, rfl, hc, fun _ => ⟨g, rfl, hB, hr⟩⟩
theorem Sl.nil {w : World} {B cap : Nat} {a : Option Addr} : E.Sl w B (.slice a 0 cap) [] := ⟨_, _, rfl, Nat.zero_le _, fun h => absurd h (by simp)⟩
/-- A row of one element, made anew. -/
theorem new_row (w : World) (x : α) (cs : Array Value) (h : cs.toList = E.fl x) : ∀ j u, (E.fl x)[j]? = some u → (w.alloc (.cells cs E.ty)).cell? ((⟨w.heap.size, 0, none⟩ : Addr).add j) = some u := by
  intro j u hj
  have ha : (⟨w.heap.size, 0, none⟩ : Addr).add j = ⟨w.heap.size, j, none⟩ := by
    unfold Addr.add
    by_cases h0 : j = 0
    · simp [h0]
    · simp [h0]
  rw [ha]
  exact cell_at (heap_alloc_new w _) _ _ (by rw [← Array.getElem?_toList, h]; exact hj)
theorem own_nil {w : World} {n : Nat} (h : n = w.heap.size) : (w.alloc (.cells #[] E.ty)).ownsRow n E.ty E.n (.slice (some ⟨n, 0, none⟩) 0 0) 0 (E.flat []) := by
  subst h; exact World.ownsRow_lit w #[] 0 (Nat.le_refl _) (Nat.zero_le _) (by simp)
end Enc
/-- Integers, a cell each. -/
def intE : Enc Int := ⟨fun i => [.int .i64 i], 1, 3, fun _ => rfl, fun x u h => by simp at h; subst h; rfl⟩
theorem IRow.cell {w : World} {g : Nat} {l : List Int} (h : intE.Row w g l) {j : Nat} {x : Int} (hx : l[j]? = some x) : w.cell? ⟨g, j, none⟩ = some (.int .i64 x) := by
  have := h.at hx (k := 0) (v := .int .i64 x) rfl
  simpa [intE] using this
theorem intE_src {w : World} {g : Nat} {l : List Int} (h : intE.Row w g l) : ∀ j u, (intE.flat l)[j]? = some u → w.cell? ((⟨g, 0, none⟩ : Addr).add j) = some u := by
  intro j u hj
  have ha : (⟨g, 0, none⟩ : Addr).add j = ⟨g, j, none⟩ := by
    unfold Addr.add
    by_cases h0 : j = 0
    · simp [h0]
    · simp [h0]
  have hl : j < l.length := by
    rcases Nat.lt_or_ge j l.length with h' | h'
    · exact h'
    · rw [List.getElem?_eq_none (by rw [intE.flat_len]; simpa [intE] using h')] at hj; cases hj
  have e := intE.flat_at (List.getElem?_eq_getElem hl) 0 (by decide)
  rw [show j * intE.n + 0 = j from by simp [intE], hj] at e
  rw [ha, IRow.cell h (List.getElem?_eq_getElem hl)]
  exact e.symm
theorem IRow.put {w : World} {g : Nat} {l : List Int} (h : intE.Row w g l) {j : Nat} (hj : j < l.length) (y : Int) : intE.Row (w.setCell ⟨g, j, none⟩ (.int .i64 y)) g (l.set j y) := by
  have := h.put1 (j := j) (x := l[j]) (y := y) (o := 0) (v := .int .i64 y) (List.getElem?_eq_getElem hj) (by simp [intE]) rfl
  simpa [intE] using this
end Go.Proofs.YtckfklpgnneodaaGreat
namespace Go.Proofs.YtckfklpgnneodaaGreat
open Go.RowKit
attribute [local irreducible] World.cell?
set_option maxRecDepth 100000 in
set_option maxHeartbeats 3200000 in
theorem icancel (x : Zw) (k0 : Nat) (hk : k0 ≤ 120) (w : World) :
    Calls Tryz.prog 126 #[(.agg #[.int .i64 x.a, .int .i64 x.b, .int .i64 x.c, .int .i64 x.d]), .int .i64 k0] w fun e w' => e = .returned (.tuple #[(.agg #[.int .i64 ((red k0 x).1).a, .int .i64 ((red k0 x).1).b, .int .i64 ((red k0 x).1).c, .int .i64 ((red k0 x).1).d]), .int .i64 (red k0 x).2]) ∧ Below w.heap.size w w' := by
  have Hr0 := Lib.hid (alloc_blk (.cells #[.int .i64 0, .int .i64 0, .int .i64 0, .int .i64 0] 81) (heap_alloc_new w (.cells #[.int .i64 x.a, .int .i64 x.b, .int .i64 x.c, .int .i64 x.d] 81)))
  have Hr1 := Lib.hid (heap_alloc_new (w.alloc (.cells #[.int .i64 x.a, .int .i64 x.b, .int .i64 x.c, .int .i64 x.d] 81)) (.cells #[.int .i64 0, .int .i64 0, .int .i64 0, .int .i64 0] 81))
  go_enter Tryz.func126, Tryz.ntmps126
  go_wp2_with fail
  go_loopw [1] (fun s1 wr => ∃ (n : Zw) (k : Nat), s1 = .int .i64 k ∧ k ≤ k0 ∧ red k n = red k0 x ∧ wr.heap[w.heap.size]? = some (.cells #[.int .i64 n.a, .int .i64 n.b, .int .i64 n.c, .int .i64 n.d] 81 (0, 0)) ∧ wr.heap[w.heap.size + 1]? = some (.cells #[.int .i64 0, .int .i64 0, .int .i64 0, .int .i64 0] 81 (0, 0)) ∧ Below w.heap.size w wr) (fun s1 _ => (intOf s1).toNat)
  case atStart => exact ⟨x, k0, rfl, Nat.le_refl _, rfl, Hr0.out, by simpa using Hr1.out, by go_grown⟩
  case round =>
    obtain ⟨n, k, rfl, hkk, hred, hb0, hb1, hbl⟩ := hrel
    have zg0 := lt_of_block hb0
    have zg1 := lt_of_block hb1
    obtain ⟨c0, c1, c2, c3⟩ := blk_cells hb0
    have f0 := fun o => free_at hb0 o
    obtain ⟨d0, d1, d2, d3⟩ := blk_cells hb1
    have f1 := fun o => free_at hb1 o
    have Hb0 := Lib.hid hb0
    have Hb1 := Lib.hid hb1
    have Hbl := Lib.hid hbl
    have Hred := Lib.hid hred
    clear hb0 hb1 hbl hred
    cases k with
    | zero =>
      go_wp2_with fail
      obtain ⟨k0, k1, k2, k3⟩ := blk_cells (set4_at (u0 := .int .i64 n.a) (u1 := .int .i64 n.b) (u2 := .int .i64 n.c) (u3 := .int .i64 n.d) Hb1.out)
      refine bodyPost_ret (v := .tuple #[(.agg #[.int .i64 n.a, .int .i64 n.b, .int .i64 n.c, .int .i64 n.d]), .int .i64 0]) (by simp only [results, Tryz.results126]; simp [go_sem, k0, k1, k2, k3]) rfl ⟨by rw [← Hred.out]; rfl, ?_⟩
      have := Hbl.out
      go_grown
    | succ k =>
      have Hi := Lib.hid (idiv_any n)
      have Hy := Lib.hid (show divB n = true → red (k + 1) n = red k (divV n) from fun h => by rw [red, if_pos h])
      have Hn := Lib.hid (show divB n = false → red (k + 1) n = (n, k + 1) from fun h => by rw [red, if_neg (by simp [h])])
      generalize divV n = q at *
      generalize divB n = t at *
      go_wp2_with fail
      refine (Hi.out _).mono ?_
      rintro e w1 ⟨rfl, hb⟩
      have hs1 := hb.size
      obtain ⟨hc1, hf1, hz1⟩ := bgrow hb
      have zg10 := hz1 _ zg0
      have zg11 := hz1 _ zg1
      have Hb01 := Lib.hid (below_blk hb zg0 Hb0.out)
      have Hb11 := Lib.hid (below_blk hb zg1 Hb1.out)
      have Hbl1 := Lib.hid (below_nx Hbl.out hb)
      clear hb
      cases t
      · have hn := Hn.out rfl
        go_wp2_with fail
        obtain ⟨k0, k1, k2, k3⟩ := blk_cells (alloc_blk (.cells #[.int .i64 q.a, .int .i64 q.b, .int .i64 q.c, .int .i64 q.d] 81) (set4_at (u0 := .int .i64 n.a) (u1 := .int .i64 n.b) (u2 := .int .i64 n.c) (u3 := .int .i64 n.d) Hb11.out))
        refine bodyPost_ret (v := .tuple #[(.agg #[.int .i64 n.a, .int .i64 n.b, .int .i64 n.c, .int .i64 n.d]), .int .i64 ((k + 1 : Nat) : Int)]) (by simp only [results, Tryz.results126]; simp [go_sem, k0, k1, k2, k3]) rfl ⟨by rw [← Hred.out, hn], ?_⟩
        have := Hbl1.out
        go_grown
      · have hn := Hy.out rfl
        go_wp2_with fail
        go_roundw
        case rel => exact ⟨q, k, by go_num, by omega, by rw [← hn]; exact Hred.out, alloc_blk _ (set4_at Hb01.out), alloc_blk _ (set4_blk (by omega) Hb11.out), by have := Hbl1.out; go_grown⟩
        case measure => simp [intOf]
end Go.Proofs.YtckfklpgnneodaaGreat
namespace Go.Proofs.YtckfklpgnneodaaGreat
open Go.RowKit
attribute [local irreducible] World.cell?
theorem set5_at {g : Nat} {W : World} {t : TypeId} {z0 z1 z2 z3 z4 u0 u1 u2 u3 u4 : Value} (h : W.heap[g]? = some (.cells #[z0, z1, z2, z3, z4] t (0, 0))) :
    (((((W.setCell ⟨g, 0, none⟩ u0).setCell ⟨g, 1, none⟩ u1).setCell ⟨g, 2, none⟩ u2).setCell ⟨g, 3, none⟩ u3).setCell ⟨g, 4, none⟩ u4).heap[g]? = some (.cells #[u0, u1, u2, u3, u4] t (0, 0)) :=
  heap_set (heap_set (heap_set (heap_set (heap_set h 0 u0) 1 u1) 2 u2) 3 u3) 4 u4
theorem blk_cells5 {g : Nat} {W : World} {t : TypeId} {z0 z1 z2 z3 z4 : Value} (h : W.heap[g]? = some (.cells #[z0, z1, z2, z3, z4] t (0, 0))) :
    W.cell? ⟨g, 0, none⟩ = some z0 ∧ W.cell? ⟨g, 1, none⟩ = some z1 ∧ W.cell? ⟨g, 2, none⟩ = some z2 ∧ W.cell? ⟨g, 3, none⟩ = some z3 ∧ W.cell? ⟨g, 4, none⟩ = some z4 :=
  ⟨cell_at h 0 _ rfl, cell_at h 1 _ rfl, cell_at h 2 _ rfl, cell_at h 3 _ rfl, cell_at h 4 _ rfl⟩
set_option maxRecDepth 100000 in
set_option maxHeartbeats 400000 in
theorem lin_yes (x lo hi : Int) (w : World) (h0 : lo ≤ x) (h1 : x ≤ hi) :
    Calls Tryz.prog 22 #[.int .i64 x, .int .i64 lo, .int .i64 hi] w fun e w' => e = .returned (.bool true) ∧ w = w' := by
  go_enter Tryz.func22, Tryz.ntmps22
  go_wp2_with fail
  go_ret
  exact ⟨rfl, rfl⟩
set_option maxRecDepth 100000 in
set_option maxHeartbeats 400000 in
theorem lin_no (x lo hi : Int) (w : World) (h : ¬ (lo ≤ x ∧ x ≤ hi)) :
    Calls Tryz.prog 22 #[.int .i64 x, .int .i64 lo, .int .i64 hi] w fun e w' => e = .returned (.bool false) ∧ w = w' := by
  have h' : x < lo ∨ hi < x := by omega
  clear h
  rcases h' with h | h
  · have hd : decide (lo ≤ x) = false := by simpa using h
    go_enter Tryz.func22, Tryz.ntmps22
    go_wp2_with fail
    go_ret
    exact ⟨rfl, rfl⟩
  · by_cases h0 : lo ≤ x
    · have hd : decide (x ≤ hi) = false := by simpa using h
      go_enter Tryz.func22, Tryz.ntmps22
      go_wp2_with fail
      go_ret
      exact ⟨rfl, rfl⟩
    · have hd : decide (lo ≤ x) = false := by simpa using h0
      clear h0
      go_enter Tryz.func22, Tryz.ntmps22
      go_wp2_with fail
      go_ret
      exact ⟨rfl, rfl⟩
theorem lin_any (x lo hi : Int) (b : Bool) (w : World) (h : decide (lo ≤ x ∧ x ≤ hi) = b) :
    Calls Tryz.prog 22 #[.int .i64 x, .int .i64 lo, .int .i64 hi] w fun e w' => e = .returned (.bool b) ∧ w = w' := by
  cases b
  · exact lin_no x lo hi w (by simpa using h)
  · have := of_decide_eq_true h
    exact lin_yes x lo hi w this.1 this.2
set_option maxRecDepth 100000 in
set_option maxHeartbeats 1600000 in
theorem inew_go (x : Zw) (k : Nat) (r : Dw) (t : Bool) (w : World) (h : x.ok) (h1 : k ≤ 120)
    (hy : (red k x).2 ≤ 60 → r = ⟨(red k x).1, (red k x).2⟩ ∧ t = true) (hn : 60 < (red k x).2 → r = .zero ∧ t = false) :
    Calls Tryz.prog 99 #[(.agg #[.int .i64 x.a, .int .i64 x.b, .int .i64 x.c, .int .i64 x.d]), .int .i64 k] w fun e w' => e = .returned (.tuple #[(.agg #[.int .i64 r.n.a, .int .i64 r.n.b, .int .i64 r.n.c, .int .i64 r.n.d, .int .i64 r.e]), .bool t]) ∧ Below w.heap.size w w' := by
  have Hv := Lib.hid (okB_true.2 h)
  have Hc := Lib.hid (icancel x k h1)
  have Hr0 := Lib.hid (alloc_blk (.cells #[.int .i64 0, .int .i64 0, .int .i64 0, .int .i64 0, .int .i64 0] 83) (heap_alloc_new w (.cells #[.int .i64 x.a, .int .i64 x.b, .int .i64 x.c, .int .i64 x.d] 81)))
  have Hr1 := Lib.hid (show ((w.alloc (.cells #[.int .i64 x.a, .int .i64 x.b, .int .i64 x.c, .int .i64 x.d] 81)).alloc (.cells #[.int .i64 0, .int .i64 0, .int .i64 0, .int .i64 0, .int .i64 0] 83)).heap[w.heap.size + 1]? = some (.cells #[.int .i64 0, .int .i64 0, .int .i64 0, .int .i64 0, .int .i64 0] 83 (0, 0)) from by simpa using heap_alloc_new (w.alloc (.cells #[.int .i64 x.a, .int .i64 x.b, .int .i64 x.c, .int .i64 x.d] 81)) (.cells #[.int .i64 0, .int .i64 0, .int .i64 0, .int .i64 0, .int .i64 0] 83))
  have hj := red_le k x
  generalize (red k x).1 = m at *
  generalize (red k x).2 = j at *
  go_enter Tryz.func99, Tryz.ntmps99
  go_wp2_with fail
  refine (ivalid_any x true _ Hv.out).mono ?_
  rintro e w1 ⟨rfl, hb1⟩
  have hs1 := hb1.size
  simp at hs1
  have zg0 : w.heap.size < w1.heap.size := by omega
  have zg1 : w.heap.size + 1 < w1.heap.size := by omega
  have Hr01 := Lib.hid (below_blk hb1 (by simp; omega) Hr0.out)
  have Hr11 := Lib.hid (below_blk hb1 (by simp) Hr1.out)
  obtain ⟨c0, c1, c2, c3⟩ := blk_cells Hr01.out
  have Hb1 := Lib.hid (below_up (B := w.heap.size) (w := w) (by go_grown) hb1 (by simp; omega))
  clear hb1
  go_wp2_with fail
  refine (Hc.out _).mono ?_
  rintro e w2 ⟨rfl, hb2⟩
  have hs2 := hb2.size
  have zg20 : w.heap.size < w2.heap.size := by omega
  have zg21 : w.heap.size + 1 < w2.heap.size := by omega
  have hr0 := below_blk hb2 zg0 Hr01.out
  have hr1 := below_blk hb2 zg1 Hr11.out
  obtain ⟨d0, d1, d2, d3⟩ := blk_cells hr0
  have f0 := fun o => free_at hr0 o
  obtain ⟨e0, e1, e2, e3, e4⟩ := blk_cells5 hr1
  have f1 := fun o => free_at hr1 o
  have Hr02 := Lib.hid hr0
  have Hr12 := Lib.hid hr1
  have Hb2 := Lib.hid (below_up Hb1.out hb2 (by omega))
  clear hb2 hr0 hr1 c0 c1 c2 c3
  by_cases hjj : 60 < j
  · obtain ⟨rfl, rfl⟩ := hn hjj
    have hd : decide ((60 : Int) < (j : Int)) = true := decide_eq_true (by omega)
    go_wp2_with fail
    obtain ⟨k0, k1, k2, k3, k4⟩ := blk_cells5 (set5_at (u0 := .int .i64 0) (u1 := .int .i64 0) (u2 := .int .i64 0) (u3 := .int .i64 0) (u4 := .int .i64 0) (set4_blk (u0 := .int .i64 m.a) (u1 := .int .i64 m.b) (u2 := .int .i64 m.c) (u3 := .int .i64 m.d) (g := w.heap.size) (by omega) Hr12.out))
    refine bodyPost_ret (v := .tuple #[(.agg #[.int .i64 Dw.zero.n.a, .int .i64 Dw.zero.n.b, .int .i64 Dw.zero.n.c, .int .i64 Dw.zero.n.d, .int .i64 Dw.zero.e]), .bool false]) (by simp only [results, Tryz.results99]; simp [go_sem, k0, k1, k2, k3, k4, Dw.zero, Zw.zero]) rfl ⟨rfl, ?_⟩
    have := Hb2.out
    go_grown
  · obtain ⟨rfl, rfl⟩ := hy (by omega)
    have hd : decide ((60 : Int) < (j : Int)) = false := decide_eq_false (by omega)
    go_wp2_with fail
    obtain ⟨k0, k1, k2, k3, k4⟩ := blk_cells5 (set5_at (u0 := .int .i64 m.a) (u1 := .int .i64 m.b) (u2 := .int .i64 m.c) (u3 := .int .i64 m.d) (u4 := .int .i64 j) (set4_blk (u0 := .int .i64 m.a) (u1 := .int .i64 m.b) (u2 := .int .i64 m.c) (u3 := .int .i64 m.d) (g := w.heap.size) (by omega) Hr12.out))
    refine bodyPost_ret (v := .tuple #[(.agg #[.int .i64 (Dw.mk m (j : Int)).n.a, .int .i64 (Dw.mk m (j : Int)).n.b, .int .i64 (Dw.mk m (j : Int)).n.c, .int .i64 (Dw.mk m (j : Int)).n.d, .int .i64 (Dw.mk m (j : Int)).e]), .bool true]) (by simp only [results, Tryz.results99]; simp [go_sem, k0, k1, k2, k3, k4]) rfl ⟨rfl, ?_⟩
    have := Hb2.out
    go_grown
set_option maxRecDepth 100000 in
set_option maxHeartbeats 1600000 in
theorem inew_bad (x : Zw) (k : Int) (w : World) (h0 : -9223372036854775808 ≤ k) (h1 : k ≤ 9223372036854775807) (h : ¬ (x.ok ∧ 0 ≤ k ∧ k ≤ 120)) :
    Calls Tryz.prog 99 #[(.agg #[.int .i64 x.a, .int .i64 x.b, .int .i64 x.c, .int .i64 x.d]), .int .i64 k] w fun e w' => e = .returned (.tuple #[(.agg #[.int .i64 Dw.zero.n.a, .int .i64 Dw.zero.n.b, .int .i64 Dw.zero.n.c, .int .i64 Dw.zero.n.d, .int .i64 Dw.zero.e]), .bool false]) ∧ Below w.heap.size w w' := by
  have Hr1 := Lib.hid (show ((w.alloc (.cells #[.int .i64 x.a, .int .i64 x.b, .int .i64 x.c, .int .i64 x.d] 81)).alloc (.cells #[.int .i64 0, .int .i64 0, .int .i64 0, .int .i64 0, .int .i64 0] 83)).heap[w.heap.size + 1]? = some (.cells #[.int .i64 0, .int .i64 0, .int .i64 0, .int .i64 0, .int .i64 0] 83 (0, 0)) from by simpa using heap_alloc_new (w.alloc (.cells #[.int .i64 x.a, .int .i64 x.b, .int .i64 x.c, .int .i64 x.d] 81)) (.cells #[.int .i64 0, .int .i64 0, .int .i64 0, .int .i64 0, .int .i64 0] 83))
  have hk : okB x = true → k < 0 ∨ 120 < k := fun hx => by
    have hx := okB_true.1 hx
    by_cases h2 : k < 0
    · exact .inl h2
    · exact .inr (by have : ¬ k ≤ 120 := fun h3 => h ⟨hx, by omega, h3⟩; omega)
  have Hi := Lib.hid (fun w => ivalid_any x (okB x) w rfl)
  clear h
  generalize okB x = b at *
  go_enter Tryz.func99, Tryz.ntmps99
  go_wp2_with fail
  refine (Hi.out _).mono ?_
  rintro e w1 ⟨rfl, hb1⟩
  have hr1 := below_blk hb1 (by simp) Hr1.out
  obtain ⟨e0, e1, e2, e3, e4⟩ := blk_cells5 hr1
  have f1 := fun o => free_at hr1 o
  have Hr11 := Lib.hid hr1
  have Hb1 := Lib.hid (below_up (B := w.heap.size) (w := w) (by go_grown) hb1 (by simp; omega))
  clear hb1 hr1
  cases b
  · clear hk
    go_wp2_with fail
    obtain ⟨k0, k1, k2, k3, k4⟩ := blk_cells5 (set5_at (u0 := .int .i64 0) (u1 := .int .i64 0) (u2 := .int .i64 0) (u3 := .int .i64 0) (u4 := .int .i64 0) Hr11.out)
    refine bodyPost_ret (v := .tuple #[(.agg #[.int .i64 Dw.zero.n.a, .int .i64 Dw.zero.n.b, .int .i64 Dw.zero.n.c, .int .i64 Dw.zero.n.d, .int .i64 Dw.zero.e]), .bool false]) (by simp only [results, Tryz.results99]; simp [go_sem, k0, k1, k2, k3, k4, Dw.zero, Zw.zero]) rfl ⟨rfl, ?_⟩
    have := Hb1.out
    go_grown
  · rcases hk rfl with hk | hk
    · go_wp2_with fail
      obtain ⟨k0, k1, k2, k3, k4⟩ := blk_cells5 (set5_at (u0 := .int .i64 0) (u1 := .int .i64 0) (u2 := .int .i64 0) (u3 := .int .i64 0) (u4 := .int .i64 0) Hr11.out)
      refine bodyPost_ret (v := .tuple #[(.agg #[.int .i64 Dw.zero.n.a, .int .i64 Dw.zero.n.b, .int .i64 Dw.zero.n.c, .int .i64 Dw.zero.n.d, .int .i64 Dw.zero.e]), .bool false]) (by simp only [results, Tryz.results99]; simp [go_sem, k0, k1, k2, k3, k4, Dw.zero, Zw.zero]) rfl ⟨rfl, ?_⟩
      have := Hb1.out
      go_grown
    · have hk0 : ¬ k < 0 := by omega
      go_wp2_with fail
      obtain ⟨k0, k1, k2, k3, k4⟩ := blk_cells5 (set5_at (u0 := .int .i64 0) (u1 := .int .i64 0) (u2 := .int .i64 0) (u3 := .int .i64 0) (u4 := .int .i64 0) Hr11.out)
      refine bodyPost_ret (v := .tuple #[(.agg #[.int .i64 Dw.zero.n.a, .int .i64 Dw.zero.n.b, .int .i64 Dw.zero.n.c, .int .i64 Dw.zero.n.d, .int .i64 Dw.zero.e]), .bool false]) (by simp only [results, Tryz.results99]; simp [go_sem, k0, k1, k2, k3, k4, Dw.zero, Zw.zero]) rfl ⟨rfl, ?_⟩
      have := Hb1.out
      go_grown
theorem inew_any (x : Zw) (k : Int) (w : World) (h0 : -9223372036854775808 ≤ k) (h1 : k ≤ 9223372036854775807) :
    Calls Tryz.prog 99 #[(.agg #[.int .i64 x.a, .int .i64 x.b, .int .i64 x.c, .int .i64 x.d]), .int .i64 k] w fun e w' => e = .returned (.tuple #[(.agg #[.int .i64 (newV x k).n.a, .int .i64 (newV x k).n.b, .int .i64 (newV x k).n.c, .int .i64 (newV x k).n.d, .int .i64 (newV x k).e]), .bool (newB x k)]) ∧ Below w.heap.size w w' := by
  by_cases h : x.ok ∧ 0 ≤ k ∧ k ≤ 120
  · obtain ⟨hx, h2, h3⟩ := h
    obtain ⟨n, rfl⟩ := Int.eq_ofNat_of_zero_le h2
    refine inew_go x n _ _ w hx (by omega) (fun hj => ?_) (fun hj => ?_)
    · have hb : newB x n = true := newB_iff.2 ⟨hx, h2, h3, by simpa using hj⟩
      exact ⟨by rw [newV_of hb]; simp, hb⟩
    · have hb : newB x n = false := by
        rw [Bool.eq_false_iff]; intro hb; have := (newB_iff.1 hb).2.2.2; simp at this; omega
      exact ⟨by rw [newV, hb]; rfl, hb⟩
  · have hb : newB x k = false := by
      rw [Bool.eq_false_iff]; intro hb; have := newB_iff.1 hb; exact h ⟨this.1, this.2.1, this.2.2.1⟩
    rw [newV, hb]
    exact inew_bad x k w h0 h1 h
end Go.Proofs.YtckfklpgnneodaaGreat
