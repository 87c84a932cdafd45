/- BaseC06: several of our texts in one: BaseB18 DsC BaseB14 DwR ApKc DwDraw2. -/
import Derived.Test.YtlmiebeffdcfhaaGreatBaseB06
import Derived.Test.YtlmiebeffdcfhaaGreatDwS
import Derived.Test.YtlmiebeffdcfhaaGreatBaseB05
import Derived.Deep.Slices
import Derived.Test.YtlmiebeffdcfhaaGreatBaseB22
import Derived.Test.YtlmiebeffdcfhaaGreatPhS
import Derived.Test.YtlmiebeffdcfhaaGreatBaseB07
import Derived.Test.YtlmiebeffdcfhaaGreatDwA
import Derived.Test.YtlmiebeffdcfhaaGreatDwB
import Derived.Test.YtlmiebeffdcfhaaGreatDwN
namespace Go.Proofs.YtlmiebeffdcfhaaGreat
open Go.RowKit
/-- The mark that begins at k. -/
def mk5 (k : Nat) : Dw := ⟨⟨(k : Int), ((k + 1 : Nat) : Int), ((k + 2 : Nat) : Int), ((k + 3 : Nat) : Int)⟩, ((k + 4 : Nat) : Int)⟩
/-- The marks of a row of n that begins at k. -/
def marks (k n : Nat) : List Dw := (List.range n).map fun j => mk5 (k + j * 5)
/-- A slice whose row lies in the blocks from B up to C. -/
def DSc (w : World) (B C : Nat) (v : Value) (l : List Dw) : Prop :=
  ∃ a cap, v = .slice a l.length cap ∧ l.length ≤ cap ∧ (0 < l.length → ∃ g, a = some ⟨g, 0, none⟩ ∧ B ≤ g ∧ g < C ∧ DRow w g l)
theorem DSl.upto {w : World} {B : Nat} {v : Value} {l : List Dw} (h : DSl w B v l) : DSc w B w.heap.size v l := by
  obtain ⟨a, cap, h1, h2, h3⟩ := h
  exact ⟨a, cap, h1, h2, fun hl => by obtain ⟨g, e, hB, hr⟩ := h3 hl; exact ⟨g, e, hB, hr.lt, hr⟩⟩
theorem DSc.dsl {w : World} {B C : Nat} {v : Value} {l : List Dw} (h : DSc w B C v l) : DSl w B v l := by
  obtain ⟨a, cap, h1, h2, h3⟩ := h
  exact ⟨a, cap, h1, h2, fun hl => by obtain ⟨g, e, hB, _, hr⟩ := h3 hl; exact ⟨g, e, hB, hr⟩⟩
theorem DSc.below {w w' : World} {B C : Nat} {v : Value} {l : List Dw} (h : DSc w B C v l) (hb : Below w.heap.size w w') : DSc w' B C v l := by
  obtain ⟨a, cap, h1, h2, h3⟩ := h
  exact ⟨a, cap, h1, h2, fun hl => by obtain ⟨g, e, hB, hC, hr⟩ := h3 hl; exact ⟨g, e, hB, hC, hr.below hb hr.lt⟩⟩
/-- Nothing has turned but in the blocks from B up to C. -/
def Mid (B C : Nat) (w w' : World) : Prop := Below B w w' ∧ ∀ b, C ≤ b → b < w.heap.size → w'.heap[b]? = w.heap[b]?
theorem Mid.dsl {B C D : Nat} {w w' : World} {v : Value} {l : List Dw} (h : Mid B C w w') (k : DSl w D v l) (hD : C ≤ D) : DSl w' D v l :=
  k.block fun g hg hl => h.2 g (Nat.le_trans hD hg) hl
theorem Mid.set {B C g o : Nat} {w w' : World} (h : Mid B C w w') (hB : B ≤ g) (hC : g < C) (u : Value) : Mid B C w (w'.setCell ⟨g, o, none⟩ u) :=
  ⟨h.1.setCell (p := ⟨g, o, none⟩) hB u, fun b hb hl => by rw [Below.heap_setCell _ _ _ _ (by show b ≠ g; omega)]; exact h.2 b hb hl⟩
theorem Mid.refl (B C : Nat) (w : World) : Mid B C w w := ⟨Below.refl _ _, fun _ _ _ => rfl⟩
attribute [local irreducible] World.cell?
end Go.Proofs.YtlmiebeffdcfhaaGreat
namespace Go.Proofs.YtlmiebeffdcfhaaGreat
open Go.RowKit
theorem row_below {w w' : World} {base : Nat} {e : TypeId} {size : Nat} {v : Value} {n : Nat} {xs : List Value} (h : w.ownsRow base e size v n xs) (hb : Below w.heap.size w w') : w'.ownsRow base e size v n xs := by
  obtain ⟨h1, h2⟩ := h
  refine ⟨h1, ?_⟩
  rcases h2 with h2 | ⟨g, cap, cur, a, b, c, d⟩
  · exact .inl h2
  · exact .inr ⟨g, cap, cur, a, b, by rw [hb.block g (lt_of_block c)]; exact c, d⟩
/-- An element of a row and a box. -/
def FB (w : World) (g o : Nat) (x : Dw) (b : Nat) (y : Dw) (w' : World) : Prop := w'.cell? ⟨g, o, none⟩ = some (.int .i64 x.n.a) ∧ w'.cell? ⟨g, o + 1, none⟩ = some (.int .i64 x.n.b) ∧ w'.cell? ⟨g, o + 2, none⟩ = some (.int .i64 x.n.c) ∧ w'.cell? ⟨g, o + 3, none⟩ = some (.int .i64 x.n.d) ∧ w'.cell? ⟨g, o + 4, none⟩ = some (.int .i64 x.e) ∧ w'.cell? ⟨b, 0, none⟩ = some (.int .i64 y.n.a) ∧ w'.cell? ⟨b, 1, none⟩ = some (.int .i64 y.n.b) ∧ w'.cell? ⟨b, 2, none⟩ = some (.int .i64 y.n.c) ∧ w'.cell? ⟨b, 3, none⟩ = some (.int .i64 y.n.d) ∧ w'.cell? ⟨b, 4, none⟩ = some (.int .i64 y.e) ∧ g < w'.heap.size ∧ b < w'.heap.size ∧ Below w.heap.size w w'
theorem FB.drew {w w' : World} {g o b : Nat} {x y : Dw} (h : FB w g o x b y w') : FB w g o x b y w'.drew :=
  let ⟨a0, a1, a2, a3, a4, b0, b1, b2, b3, b4, z, z', l⟩ := h; ⟨a0, a1, a2, a3, a4, b0, b1, b2, b3, b4, z, z', l.drew⟩
theorem FB.below {w w1 w2 : World} {g o b : Nat} {x y : Dw} (h : FB w g o x b y w1) (hb : Below w1.heap.size w1 w2) : FB w g o x b y w2 :=
  let ⟨a0, a1, a2, a3, a4, b0, b1, b2, b3, b4, z, z', l⟩ := h
  ⟨cell_below a0 hb z, cell_below a1 hb z, cell_below a2 hb z, cell_below a3 hb z, cell_below a4 hb z, cell_below b0 hb z', cell_below b1 hb z', cell_below b2 hb z', cell_below b3 hb z', cell_below b4 hb z', Nat.lt_of_lt_of_le z hb.size, Nat.lt_of_lt_of_le z' hb.size, below_up l hb l.size⟩
theorem FB.alloc {w w1 : World} {g o b : Nat} {x y : Dw} (h : FB w g o x b y w1) (p : Obj) : FB w g o x b y (w1.alloc p) := h.below ((Below.refl _ _).alloc (Nat.le_refl _) p)
theorem FB.realloc {w W : World} {g o b : Nat} {x y : Dw} {lim : Nat} {p q : Obj} (h : FB w g o x b y (W.alloc p)) (hq : lim ≤ W.heap.size) (hn : g < lim ∧ b < lim) (hw : w.heap.size ≤ lim) : FB w g o x b y (W.alloc q) :=
  let ⟨a0, a1, a2, a3, a4, b0, b1, b2, b3, b4, _, _, l⟩ := h
  ⟨cell_realloc a0 (by omega), cell_realloc a1 (by omega), cell_realloc a2 (by omega), cell_realloc a3 (by omega), cell_realloc a4 (by omega), cell_realloc b0 (by omega), cell_realloc b1 (by omega), cell_realloc b2 (by omega), cell_realloc b3 (by omega), cell_realloc b4 (by omega), (by simp; omega), (by simp; omega), below_realloc l (by omega) (by omega)⟩
theorem FB.set5 {w W : World} {g o b : Nat} {x y : Dw} {lim k : Nat} {u0 u1 u2 u3 u4 : Value} (h : FB w g o x b y W) (hq : lim ≤ k) (hn : g < lim ∧ b < lim) (hw : w.heap.size ≤ lim) :
    FB w g o x b y (((((W.setCell ⟨k, 0, none⟩ u0).setCell ⟨k, 1, none⟩ u1).setCell ⟨k, 2, none⟩ u2).setCell ⟨k, 3, none⟩ u3).setCell ⟨k, 4, none⟩ u4) :=
  let ⟨a0, a1, a2, a3, a4, b0, b1, b2, b3, b4, z, z', l⟩ := h
  ⟨cell_far5 a0 (by omega), cell_far5 a1 (by omega), cell_far5 a2 (by omega), cell_far5 a3 (by omega), cell_far5 a4 (by omega), cell_far5 b0 (by omega), cell_far5 b1 (by omega), cell_far5 b2 (by omega), cell_far5 b3 (by omega), cell_far5 b4 (by omega), (by simpa [World.setCell] using z), (by simpa [World.setCell] using z'), ((((l.setCell (p := ⟨k, 0, none⟩) (Nat.le_trans hw hq) _).setCell (p := ⟨k, 1, none⟩) (Nat.le_trans hw hq) _).setCell (p := ⟨k, 2, none⟩) (Nat.le_trans hw hq) _).setCell (p := ⟨k, 3, none⟩) (Nat.le_trans hw hq) _).setCell (p := ⟨k, 4, none⟩) (Nat.le_trans hw hq) _⟩
theorem FB.low {w w' : World} {g o b : Nat} {x y : Dw} (h : FB w g o x b y w') : Below w.heap.size w w' := let ⟨_, _, _, _, _, _, _, _, _, _, _, _, l⟩ := h; l
theorem E2.alloc {w w1 : World} {g g' o : Nat} {x y : Dw} (h : E2 w g g' o x y w1) (p : Obj) : E2 w g g' o x y (w1.alloc p) := h.below ((Below.refl _ _).alloc (Nat.le_refl _) p)
theorem E2.realloc {w W : World} {g g' o : Nat} {x y : Dw} {lim : Nat} {p q : Obj} (h : E2 w g g' o x y (W.alloc p)) (hq : lim ≤ W.heap.size) (hn : g < lim ∧ g' < lim) (hw : w.heap.size ≤ lim) : E2 w g g' o x y (W.alloc q) :=
  let ⟨a0, a1, a2, a3, a4, b0, b1, b2, b3, b4, _, _, l⟩ := h
  ⟨cell_realloc a0 (by omega), cell_realloc a1 (by omega), cell_realloc a2 (by omega), cell_realloc a3 (by omega), cell_realloc a4 (by omega), cell_realloc b0 (by omega), cell_realloc b1 (by omega), cell_realloc b2 (by omega), cell_realloc b3 (by omega), cell_realloc b4 (by omega), (by simp; omega), (by simp; omega), below_realloc l (by omega) (by omega)⟩
theorem E2.set5 {w W : World} {g g' o : Nat} {x y : Dw} {lim k : Nat} {u0 u1 u2 u3 u4 : Value} (h : E2 w g g' o x y W) (hq : lim ≤ k) (hn : g < lim ∧ g' < lim) (hw : w.heap.size ≤ lim) :
    E2 w g g' o x y (((((W.setCell ⟨k, 0, none⟩ u0).setCell ⟨k, 1, none⟩ u1).setCell ⟨k, 2, none⟩ u2).setCell ⟨k, 3, none⟩ u3).setCell ⟨k, 4, none⟩ u4) :=
  let ⟨a0, a1, a2, a3, a4, b0, b1, b2, b3, b4, z, z', l⟩ := h
  ⟨cell_far5 a0 (by omega), cell_far5 a1 (by omega), cell_far5 a2 (by omega), cell_far5 a3 (by omega), cell_far5 a4 (by omega), cell_far5 b0 (by omega), cell_far5 b1 (by omega), cell_far5 b2 (by omega), cell_far5 b3 (by omega), cell_far5 b4 (by omega), (by simpa [World.setCell] using z), (by simpa [World.setCell] using z'), ((((l.setCell (p := ⟨k, 0, none⟩) (Nat.le_trans hw hq) _).setCell (p := ⟨k, 1, none⟩) (Nat.le_trans hw hq) _).setCell (p := ⟨k, 2, none⟩) (Nat.le_trans hw hq) _).setCell (p := ⟨k, 3, none⟩) (Nat.le_trans hw hq) _).setCell (p := ⟨k, 4, none⟩) (Nat.le_trans hw hq) _⟩
end Go.Proofs.YtlmiebeffdcfhaaGreat
namespace Go.Proofs.YtlmiebeffdcfhaaGreat
open Go.ChangeShapes Go.WideShapes Go.ChangeAt Go.RowKit Go.Lib Go.Joins
end Go.Proofs.YtlmiebeffdcfhaaGreat
namespace Go.Proofs.YtlmiebeffdcfhaaGreat
open Go.RowKit
theorem rep_at {N k : Nat} (h : k < N) : (List.replicate N Dw.zero)[k]? = some .zero := by rw [List.getElem?_replicate, if_pos h]
attribute [local irreducible] World.cell?
set_option maxRecDepth 100000 in
set_option maxHeartbeats 1600000 in
theorem sbasis1 (k : Nat) (w : World) (hk : k < 2) :
    Calls Tryz.prog 36 #[.int .i64 1, .int .i64 k] w fun e w' => ∃ v, e = .returned v ∧ DSl w' w.heap.size v ((List.replicate 2 Dw.zero).set k oneD) ∧ Below w.heap.size w w' := by
  obtain ⟨i0, hi, hz0, hz1, hz2⟩ := info_parts infoDw
  have H1 := Lib.hid (fun w => lin_any 1 1 4 true w (by decide))
  have H2 := Lib.hid (fun w => lin_any k 0 1 true w (by simp; omega))
  have Ho := Lib.hid (fun w => sone_any w)
  go_enter Tryz.func36, Tryz.ntmps36
  go_wp2_with fail
  refine (H1.out _).mono ?_
  rintro e w1 ⟨rfl, rfl⟩
  go_wp2_with fail
  refine (H2.out _).mono ?_
  rintro e w1 ⟨rfl, rfl⟩
  go_wp2_with (first | (at_make; refine wpList_make_full _ rfl _ _ 59 rfl w.heap.size 70 i0 (.agg #[.int .i64 0, .int .i64 0, .int .i64 0, .int .i64 0, .int .i64 0]) 5 Tryz.underlying59 hi hz0 hz1 .i64 .i64 2 2 2 rfl rfl rfl rfl (by rw [hz2]; omega) (by unfold maxLen; omega) (Nat.le_refl _) ?_))
  intro w1 hown hgrow
  have hb1 : Below w.heap.size w w1 := (Below.refl _ _).grown hgrow (Nat.le_refl _) (fun k hk => by cases hk)
  have hrow1 : DRow w1 w.heap.size (List.replicate 2 .zero) := by
    rcases hown.2 with ⟨h, _⟩ | ⟨g, cap, cur, hv, hb, hg, _, _, hs, ht⟩
    · cases h
    · obtain ⟨rfl, rfl⟩ : g = w.heap.size ∧ cap = 2 := by injection hv with hv _ hv2; injection hv with hv; injection hv with hv; exact ⟨hv.symm, hv2.symm⟩
      exact ⟨cur, hg, by rw [List.length_replicate, ht]; exact made_flat 2⟩
  have Hb1 := Lib.hid hb1
  have Hrow1 := Lib.hid hrow1
  clear hown hgrow hb1 hrow1
  go_wp2_with fail
  refine (Ho.out _).mono ?_
  rintro e w2 ⟨rfl, hb2⟩
  have hr2 := Hrow1.out.below hb2 Hrow1.out.lt
  obtain ⟨e0, e1, e2, e3, e4⟩ := hr2.cells (rep_at hk)
  have f1 := fun o => hr2.free o
  have Hr3 := Lib.hid (hr2.put k (by simpa using hk) oneD)
  have Hb2 := Lib.hid (Hb1.out.trans (hb2.mono Hb1.out.size))
  clear hr2 hb2 Hrow1 H1 H2 Ho
  go_wp2_with fail
  go_ret
  refine ⟨_, rfl, DSl.mk (by simp) (Nat.le_refl _) (Nat.le_refl _) Hr3.out, ?_⟩
  have := Hb2.out
  go_grown
set_option maxRecDepth 100000 in
set_option maxHeartbeats 1600000 in
theorem sbasis2 (k : Nat) (w : World) (hk : k < 4) :
    Calls Tryz.prog 36 #[.int .i64 2, .int .i64 k] w fun e w' => ∃ v, e = .returned v ∧ DSl w' w.heap.size v ((List.replicate 4 Dw.zero).set k oneD) ∧ Below w.heap.size w w' := by
  obtain ⟨i0, hi, hz0, hz1, hz2⟩ := info_parts infoDw
  have H1 := Lib.hid (fun w => lin_any 2 1 4 true w (by decide))
  have H2 := Lib.hid (fun w => lin_any k 0 3 true w (by simp; omega))
  have Ho := Lib.hid (fun w => sone_any w)
  go_enter Tryz.func36, Tryz.ntmps36
  go_wp2_with fail
  refine (H1.out _).mono ?_
  rintro e w1 ⟨rfl, rfl⟩
  go_wp2_with fail
  refine (H2.out _).mono ?_
  rintro e w1 ⟨rfl, rfl⟩
  go_wp2_with (first | (at_make; refine wpList_make_full _ rfl _ _ 59 rfl w.heap.size 70 i0 (.agg #[.int .i64 0, .int .i64 0, .int .i64 0, .int .i64 0, .int .i64 0]) 5 Tryz.underlying59 hi hz0 hz1 .i64 .i64 4 4 4 rfl rfl rfl rfl (by rw [hz2]; omega) (by unfold maxLen; omega) (Nat.le_refl _) ?_))
  intro w1 hown hgrow
  have hb1 : Below w.heap.size w w1 := (Below.refl _ _).grown hgrow (Nat.le_refl _) (fun k hk => by cases hk)
  have hrow1 : DRow w1 w.heap.size (List.replicate 4 .zero) := by
    rcases hown.2 with ⟨h, _⟩ | ⟨g, cap, cur, hv, hb, hg, _, _, hs, ht⟩
    · cases h
    · obtain ⟨rfl, rfl⟩ : g = w.heap.size ∧ cap = 4 := by injection hv with hv _ hv2; injection hv with hv; injection hv with hv; exact ⟨hv.symm, hv2.symm⟩
      exact ⟨cur, hg, by rw [List.length_replicate, ht]; exact made_flat 4⟩
  have Hb1 := Lib.hid hb1
  have Hrow1 := Lib.hid hrow1
  clear hown hgrow hb1 hrow1
  go_wp2_with fail
  refine (Ho.out _).mono ?_
  rintro e w2 ⟨rfl, hb2⟩
  have hr2 := Hrow1.out.below hb2 Hrow1.out.lt
  obtain ⟨e0, e1, e2, e3, e4⟩ := hr2.cells (rep_at hk)
  have f1 := fun o => hr2.free o
  have Hr3 := Lib.hid (hr2.put k (by simpa using hk) oneD)
  have Hb2 := Lib.hid (Hb1.out.trans (hb2.mono Hb1.out.size))
  clear hr2 hb2 Hrow1 H1 H2 Ho
  go_wp2_with fail
  go_ret
  refine ⟨_, rfl, DSl.mk (by simp) (Nat.le_refl _) (Nat.le_refl _) Hr3.out, ?_⟩
  have := Hb2.out
  go_grown
set_option maxRecDepth 100000 in
set_option maxHeartbeats 1600000 in
theorem sbasis3 (k : Nat) (w : World) (hk : k < 8) :
    Calls Tryz.prog 36 #[.int .i64 3, .int .i64 k] w fun e w' => ∃ v, e = .returned v ∧ DSl w' w.heap.size v ((List.replicate 8 Dw.zero).set k oneD) ∧ Below w.heap.size w w' := by
  obtain ⟨i0, hi, hz0, hz1, hz2⟩ := info_parts infoDw
  have H1 := Lib.hid (fun w => lin_any 3 1 4 true w (by decide))
  have H2 := Lib.hid (fun w => lin_any k 0 7 true w (by simp; omega))
  have Ho := Lib.hid (fun w => sone_any w)
  go_enter Tryz.func36, Tryz.ntmps36
  go_wp2_with fail
  refine (H1.out _).mono ?_
  rintro e w1 ⟨rfl, rfl⟩
  go_wp2_with fail
  refine (H2.out _).mono ?_
  rintro e w1 ⟨rfl, rfl⟩
  go_wp2_with (first | (at_make; refine wpList_make_full _ rfl _ _ 59 rfl w.heap.size 70 i0 (.agg #[.int .i64 0, .int .i64 0, .int .i64 0, .int .i64 0, .int .i64 0]) 5 Tryz.underlying59 hi hz0 hz1 .i64 .i64 8 8 8 rfl rfl rfl rfl (by rw [hz2]; omega) (by unfold maxLen; omega) (Nat.le_refl _) ?_))
  intro w1 hown hgrow
  have hb1 : Below w.heap.size w w1 := (Below.refl _ _).grown hgrow (Nat.le_refl _) (fun k hk => by cases hk)
  have hrow1 : DRow w1 w.heap.size (List.replicate 8 .zero) := by
    rcases hown.2 with ⟨h, _⟩ | ⟨g, cap, cur, hv, hb, hg, _, _, hs, ht⟩
    · cases h
    · obtain ⟨rfl, rfl⟩ : g = w.heap.size ∧ cap = 8 := by injection hv with hv _ hv2; injection hv with hv; injection hv with hv; exact ⟨hv.symm, hv2.symm⟩
      exact ⟨cur, hg, by rw [List.length_replicate, ht]; exact made_flat 8⟩
  have Hb1 := Lib.hid hb1
  have Hrow1 := Lib.hid hrow1
  clear hown hgrow hb1 hrow1
  go_wp2_with fail
  refine (Ho.out _).mono ?_
  rintro e w2 ⟨rfl, hb2⟩
  have hr2 := Hrow1.out.below hb2 Hrow1.out.lt
  obtain ⟨e0, e1, e2, e3, e4⟩ := hr2.cells (rep_at hk)
  have f1 := fun o => hr2.free o
  have Hr3 := Lib.hid (hr2.put k (by simpa using hk) oneD)
  have Hb2 := Lib.hid (Hb1.out.trans (hb2.mono Hb1.out.size))
  clear hr2 hb2 Hrow1 H1 H2 Ho
  go_wp2_with fail
  go_ret
  refine ⟨_, rfl, DSl.mk (by simp) (Nat.le_refl _) (Nat.le_refl _) Hr3.out, ?_⟩
  have := Hb2.out
  go_grown
set_option maxRecDepth 100000 in
set_option maxHeartbeats 1600000 in
theorem sbasis4 (k : Nat) (w : World) (hk : k < 16) :
    Calls Tryz.prog 36 #[.int .i64 4, .int .i64 k] w fun e w' => ∃ v, e = .returned v ∧ DSl w' w.heap.size v ((List.replicate 16 Dw.zero).set k oneD) ∧ Below w.heap.size w w' := by
  obtain ⟨i0, hi, hz0, hz1, hz2⟩ := info_parts infoDw
  have H1 := Lib.hid (fun w => lin_any 4 1 4 true w (by decide))
  have H2 := Lib.hid (fun w => lin_any k 0 15 true w (by simp; omega))
  have Ho := Lib.hid (fun w => sone_any w)
  go_enter Tryz.func36, Tryz.ntmps36
  go_wp2_with fail
  refine (H1.out _).mono ?_
  rintro e w1 ⟨rfl, rfl⟩
  go_wp2_with fail
  refine (H2.out _).mono ?_
  rintro e w1 ⟨rfl, rfl⟩
  go_wp2_with (first | (at_make; refine wpList_make_full _ rfl _ _ 59 rfl w.heap.size 70 i0 (.agg #[.int .i64 0, .int .i64 0, .int .i64 0, .int .i64 0, .int .i64 0]) 5 Tryz.underlying59 hi hz0 hz1 .i64 .i64 16 16 16 rfl rfl rfl rfl (by rw [hz2]; omega) (by unfold maxLen; omega) (Nat.le_refl _) ?_))
  intro w1 hown hgrow
  have hb1 : Below w.heap.size w w1 := (Below.refl _ _).grown hgrow (Nat.le_refl _) (fun k hk => by cases hk)
  have hrow1 : DRow w1 w.heap.size (List.replicate 16 .zero) := by
    rcases hown.2 with ⟨h, _⟩ | ⟨g, cap, cur, hv, hb, hg, _, _, hs, ht⟩
    · cases h
    · obtain ⟨rfl, rfl⟩ : g = w.heap.size ∧ cap = 16 := by injection hv with hv _ hv2; injection hv with hv; injection hv with hv; exact ⟨hv.symm, hv2.symm⟩
      exact ⟨cur, hg, by rw [List.length_replicate, ht]; exact made_flat 16⟩
  have Hb1 := Lib.hid hb1
  have Hrow1 := Lib.hid hrow1
  clear hown hgrow hb1 hrow1
  go_wp2_with fail
  refine (Ho.out _).mono ?_
  rintro e w2 ⟨rfl, hb2⟩
  have hr2 := Hrow1.out.below hb2 Hrow1.out.lt
  obtain ⟨e0, e1, e2, e3, e4⟩ := hr2.cells (rep_at hk)
  have f1 := fun o => hr2.free o
  have Hr3 := Lib.hid (hr2.put k (by simpa using hk) oneD)
  have Hb2 := Lib.hid (Hb1.out.trans (hb2.mono Hb1.out.size))
  clear hr2 hb2 Hrow1 H1 H2 Ho
  go_wp2_with fail
  go_ret
  refine ⟨_, rfl, DSl.mk (by simp) (Nat.le_refl _) (Nat.le_refl _) Hr3.out, ?_⟩
  have := Hb2.out
  go_grown
set_option maxRecDepth 100000 in
set_option maxHeartbeats 800000 in
theorem sbasis_no (n i : Int) (w : World) (h : ¬ (1 ≤ n ∧ n ≤ 4 ∧ 0 ≤ i ∧ i ≤ 2 ^ n.toNat - 1)) :
    Calls Tryz.prog 36 #[.int .i64 n, .int .i64 i] w fun e w' => ∃ v, e = .returned v ∧ DSl w' w.heap.size v [] ∧ Below w.heap.size w w' := by
  by_cases hn : 1 ≤ n ∧ n ≤ 4
  · have H1 := Lib.hid (fun w => lin_any n 1 4 true w (by simp; omega))
    rcases (show (n = 1 ∧ ¬ (0 ≤ i ∧ i ≤ 1)) ∨ (n = 2 ∧ ¬ (0 ≤ i ∧ i ≤ 3)) ∨ (n = 3 ∧ ¬ (0 ≤ i ∧ i ≤ 7)) ∨ (n = 4 ∧ ¬ (0 ≤ i ∧ i ≤ 15)) by
      rcases (show n = 1 ∨ n = 2 ∨ n = 3 ∨ n = 4 by omega) with rfl | rfl | rfl | rfl
      · exact .inl ⟨rfl, fun k => h ⟨by omega, by omega, k.1, k.2⟩⟩
      · exact .inr (.inl ⟨rfl, fun k => h ⟨by omega, by omega, k.1, k.2⟩⟩)
      · exact .inr (.inr (.inl ⟨rfl, fun k => h ⟨by omega, by omega, k.1, k.2⟩⟩))
      · exact .inr (.inr (.inr ⟨rfl, fun k => h ⟨by omega, by omega, k.1, k.2⟩⟩))) with ⟨rfl, hi⟩ | ⟨rfl, hi⟩ | ⟨rfl, hi⟩ | ⟨rfl, hi⟩
    · have H2 := Lib.hid (fun w => lin_any i 0 1 false w (by simpa using hi))
      clear h hi hn
      go_enter Tryz.func36, Tryz.ntmps36
      go_wp2_with fail
      refine (H1.out _).mono ?_
      rintro e w1 ⟨rfl, rfl⟩
      go_wp2_with fail
      refine (H2.out _).mono ?_
      rintro e w1 ⟨rfl, rfl⟩
      go_wp2_with fail
      go_ret
      exact ⟨_, rfl, DSl.nil, by go_grown⟩
    · have H2 := Lib.hid (fun w => lin_any i 0 3 false w (by simpa using hi))
      clear h hi hn
      go_enter Tryz.func36, Tryz.ntmps36
      go_wp2_with fail
      refine (H1.out _).mono ?_
      rintro e w1 ⟨rfl, rfl⟩
      go_wp2_with fail
      refine (H2.out _).mono ?_
      rintro e w1 ⟨rfl, rfl⟩
      go_wp2_with fail
      go_ret
      exact ⟨_, rfl, DSl.nil, by go_grown⟩
    · have H2 := Lib.hid (fun w => lin_any i 0 7 false w (by simpa using hi))
      clear h hi hn
      go_enter Tryz.func36, Tryz.ntmps36
      go_wp2_with fail
      refine (H1.out _).mono ?_
      rintro e w1 ⟨rfl, rfl⟩
      go_wp2_with fail
      refine (H2.out _).mono ?_
      rintro e w1 ⟨rfl, rfl⟩
      go_wp2_with fail
      go_ret
      exact ⟨_, rfl, DSl.nil, by go_grown⟩
    · have H2 := Lib.hid (fun w => lin_any i 0 15 false w (by simpa using hi))
      clear h hi hn
      go_enter Tryz.func36, Tryz.ntmps36
      go_wp2_with fail
      refine (H1.out _).mono ?_
      rintro e w1 ⟨rfl, rfl⟩
      go_wp2_with fail
      refine (H2.out _).mono ?_
      rintro e w1 ⟨rfl, rfl⟩
      go_wp2_with fail
      go_ret
      exact ⟨_, rfl, DSl.nil, by go_grown⟩
  · have H1 := Lib.hid (fun w => lin_any n 1 4 false w (by simpa using hn))
    clear h hn
    go_enter Tryz.func36, Tryz.ntmps36
    go_wp2_with fail
    refine (H1.out _).mono ?_
    rintro e w1 ⟨rfl, rfl⟩
    go_wp2_with fail
    go_ret
    exact ⟨_, rfl, DSl.nil, by go_grown⟩
theorem sbasis (n i : Int) (w : World) :
    Calls Tryz.prog 36 #[.int .i64 n, .int .i64 i] w fun e w' => ∃ v, e = .returned v ∧ DSl w' w.heap.size v (basisL n i) ∧ Below w.heap.size w w' := by
  by_cases h : 1 ≤ n ∧ n ≤ 4 ∧ 0 ≤ i ∧ i ≤ 2 ^ n.toNat - 1
  · rw [show basisL n i = (List.replicate (2 ^ n.toNat) .zero).set i.toNat oneD from if_pos h]
    obtain ⟨h0, h1, h2, h3⟩ := h
    obtain ⟨k, rfl⟩ : ∃ k : Nat, i = k := ⟨i.toNat, by omega⟩
    rcases (show n = 1 ∨ n = 2 ∨ n = 3 ∨ n = 4 by omega) with rfl | rfl | rfl | rfl
    · exact sbasis1 k w (by have : (k : Int) ≤ 1 := h3; omega)
    · exact sbasis2 k w (by have : (k : Int) ≤ 3 := h3; omega)
    · exact sbasis3 k w (by have : (k : Int) ≤ 7 := h3; omega)
    · exact sbasis4 k w (by have : (k : Int) ≤ 15 := h3; omega)
  · rw [show basisL n i = [] from if_neg h]
    exact sbasis_no n i w h
end Go.Proofs.YtlmiebeffdcfhaaGreat
namespace Go.Proofs.YtlmiebeffdcfhaaGreat
open Go.RowKit
namespace Enc
variable {α : Type} (E : Enc α)
/-- A slice whose row lies in the blocks from B up to C. -/
def Sc (w : World) (B C : Nat) (v : Value) (l : List α) : Prop :=
  ∃ a cap, v = .slice a l.length cap ∧ l.length ≤ cap ∧ (0 < l.length → ∃ g, a = some ⟨g, 0, none⟩ ∧ B ≤ g ∧ g < C ∧ E.Row w g l)
variable {E}
theorem Sl.upto {w : World} {B : Nat} {v : Value} {l : List α} (h : E.Sl w B v l) : E.Sc w B w.heap.size v l := by
  obtain ⟨a, cap, h1, h2, h3⟩ := h
  exact ⟨a, cap, h1, h2, fun hl => by obtain ⟨g, e, hB, hr⟩ := h3 hl; exact ⟨g, e, hB, hr.lt, hr⟩⟩
theorem Sc.below {w w' : World} {B C : Nat} {v : Value} {l : List α} (h : E.Sc w B C v l) (hb : Below w.heap.size w w') : E.Sc w' B C v l := by
  obtain ⟨a, cap, h1, h2, h3⟩ := h
  exact ⟨a, cap, h1, h2, fun hl => by obtain ⟨g, e, hB, hC, hr⟩ := h3 hl; exact ⟨g, e, hB, hC, hr.below hb hr.lt⟩⟩
theorem Sc.lo {B C D F : Nat} {w w' : World} {v : Value} {l : List α} (k : E.Sc w D F v l) (h : Mid B C w w') (hE : F ≤ B) : E.Sc w' D F v l := by
  obtain ⟨a, cap, h1, h2, h3⟩ := k
  exact ⟨a, cap, h1, h2, fun hl => by obtain ⟨g, e, hB, hC, hr⟩ := h3 hl; exact ⟨g, e, hB, hC, hr.below h.1 (by omega)⟩⟩
theorem Sc.hi {B C D F : Nat} {w w' : World} {v : Value} {l : List α} (k : E.Sc w D F v l) (h : Mid B C w w') (hD : C ≤ D) : E.Sc w' D F v l := by
  obtain ⟨a, cap, h1, h2, h3⟩ := k
  exact ⟨a, cap, h1, h2, fun hl => by obtain ⟨g, e, hB, hC, hr⟩ := h3 hl; exact ⟨g, e, hB, hC, hr.block (h.2 g (by omega) hr.lt)⟩⟩
/-- The head of a slice. -/
theorem Sl.take {w : World} {B n cap : Nat} {a : Option Addr} {l : List α} (h : E.Sl w B (.slice a n cap) l) (k : Nat) (hk : k ≤ l.length) : E.Sl w B (.slice a k cap) (l.take k) := by
  obtain ⟨a', cap', h1, h2, h3⟩ := h
  injection h1 with e1 e2 e3
  subst e1 e2 e3
  have hl : (l.take k).length = k := by rw [List.length_take]; omega
  exact ⟨_, _, by rw [hl], by rw [hl]; omega, fun h0 => by
    rw [hl] at h0
    obtain ⟨g, e, hB, hr⟩ := h3 (by omega)
    exact ⟨g, e, hB, hr.take k⟩⟩
end Enc
end Go.Proofs.YtlmiebeffdcfhaaGreat
namespace Go.Proofs.YtlmiebeffdcfhaaGreat
open Go.RowKit
theorem fl_new (w : World) (y : Dw) (t : TypeId) : ∀ j u, (fl y)[j]? = some u → (w.alloc (.cells #[.int .i64 y.n.a, .int .i64 y.n.b, .int .i64 y.n.c, .int .i64 y.n.d, .int .i64 y.e] t)).cell? ((⟨w.heap.size, 0, none⟩ : Addr).add j) = some u := by
  intro j u hj
  match j, hj with
  | 0, hj => simp [fl] at hj; subst hj; simp [Addr.add]
  | 1, hj => simp [fl] at hj; subst hj; simp [Addr.add]
  | 2, hj => simp [fl] at hj; subst hj; simp [Addr.add]
  | 3, hj => simp [fl] at hj; subst hj; simp [Addr.add]
  | 4, hj => simp [fl] at hj; subst hj; simp [Addr.add]
  | j + 5, hj => simp [fl] at hj
theorem own_new {w : World} {n : Nat} {t : TypeId} (h : n = w.heap.size) : (w.alloc (.cells #[] t)).ownsRow n t 5 (.slice (some ⟨n, 0, none⟩) 0 0) 0 (flat []) := by
  subst h; exact World.ownsRow_lit w #[] 0 (Nat.le_refl _) (Nat.zero_le _) rfl
theorem fl_plain (y : Dw) : ∀ u ∈ fl y, u.oneCell' = true := by
  intro u hu
  simp [fl] at hu
  rcases hu with rfl | rfl | rfl | rfl | rfl <;> rfl
attribute [local irreducible] World.cell?
end Go.Proofs.YtlmiebeffdcfhaaGreat
namespace Go.Proofs.YtlmiebeffdcfhaaGreat
open Go.RowKit
/-- A place and a factor, six cells. -/
def sentE : Enc (Nat × Dw) := ⟨fun p => .int .i64 (p.1 : Int) :: fl p.2, 6, 97, fun _ => rfl, fun x u h => by
  rw [List.mem_cons] at h
  rcases h with rfl | h
  · rfl
  · simp [fl] at h; rcases h with rfl | rfl | rfl | rfl | rfl <;> rfl⟩
/-- A bit turned over. -/
def flipN (i q : Nat) : Nat := i ^^^ (1 <<< q)
theorem flip_all : ∀ i : Fin 16, ∀ q : Fin 4, bits .xor .i64 ((i.val : Nat) : Int) (wrap64 (2 ^ q.val)) = ((flipN i.val q.val : Nat) : Int) := by decide +kernel
theorem flip_bits {i q : Nat} (hi : i < 16) (hq : q < 4) : bits .xor .i64 (i : Int) (wrap64 (2 ^ q)) = ((flipN i q : Nat) : Int) := flip_all ⟨i, hi⟩ ⟨q, hq⟩
theorem new_sent (w : World) (i : Nat) (x : Dw) : sentE.Sl (w.alloc (.cells #[.int .i64 (i : Int), .int .i64 x.n.a, .int .i64 x.n.b, .int .i64 x.n.c, .int .i64 x.n.d, .int .i64 x.e] 97)) w.heap.size (.slice (some ⟨w.heap.size, 0, none⟩) 1 1) [(i, x)] :=
  Enc.Sl.mk rfl (Nat.le_refl _) (Nat.le_refl _) ⟨_, heap_alloc_new w _, rfl⟩
attribute [local irreducible] World.cell?
set_option maxRecDepth 100000 in
set_option maxHeartbeats 1600000 in
theorem sflip (i q : Nat) (t : Bool) (w : World) (hi : i < 16) (hq : q < 4) :
    Calls Tryz.prog 102 #[.int .i64 i, .int .i64 q, .bool t] w fun e w' => ∃ v, e = .returned v ∧ sentE.Sl w' w.heap.size v [(if t then flipN i q else i, dPh 0)] ∧ Below w.heap.size w w' := by
  have H := Lib.hid (fun W => sphase 0 W)
  generalize dPh 0 = P at *
  cases t with
  | true =>
    have hf := flip_bits hi hq
    generalize flipN i q = f at *
    go_enter Tryz.func102, Tryz.ntmps102
    go_wp2_with fail
    refine (H.out _).mono ?_
    rintro e w1 ⟨rfl, hb1⟩
    have Hs := Lib.hid ((new_sent w1 f P).mono hb1.size)
    have Hb1 := Lib.hid hb1
    have hs1 := hb1.size
    clear hb1
    go_wp2_with fail
    go_ret
    exact ⟨_, rfl, Hs.out, by have := Hb1.out; go_grown⟩
  | false =>
    go_enter Tryz.func102, Tryz.ntmps102
    go_wp2_with fail
    refine (H.out _).mono ?_
    rintro e w1 ⟨rfl, hb1⟩
    have Hs := Lib.hid ((new_sent w1 i P).mono hb1.size)
    have Hb1 := Lib.hid hb1
    have hs1 := hb1.size
    clear hb1
    go_wp2_with fail
    go_ret
    exact ⟨_, rfl, Hs.out, by have := Hb1.out; go_grown⟩
set_option maxRecDepth 100000 in
set_option maxHeartbeats 1600000 in
theorem sphas (i : Nat) (t : Bool) (k : Int) (w : World) (_ : i < 16) :
    Calls Tryz.prog 104 #[.int .i64 i, .bool t, .int .i64 k] w fun e w' => ∃ v, e = .returned v ∧ sentE.Sl w' w.heap.size v [(i, if t then dPh k else dPh 0)] ∧ Below w.heap.size w w' := by
  have H := Lib.hid (fun W => sphase k W)
  have H0 := Lib.hid (fun W => sphase 0 W)
  generalize dPh k = P at *
  generalize dPh 0 = O at *
  cases t with
  | true =>
    go_enter Tryz.func104, Tryz.ntmps104
    go_wp2_with fail
    refine (H.out _).mono ?_
    rintro e w1 ⟨rfl, hb1⟩
    have Hs := Lib.hid ((new_sent w1 i P).mono hb1.size)
    have Hb1 := Lib.hid hb1
    have hs1 := hb1.size
    clear hb1
    go_wp2_with fail
    go_ret
    exact ⟨_, rfl, Hs.out, by have := Hb1.out; go_grown⟩
  | false =>
    go_enter Tryz.func104, Tryz.ntmps104
    go_wp2_with fail
    refine (H0.out _).mono ?_
    rintro e w1 ⟨rfl, hb1⟩
    have Hs := Lib.hid ((new_sent w1 i O).mono hb1.size)
    have Hb1 := Lib.hid hb1
    have hs1 := hb1.size
    clear hb1
    go_wp2_with fail
    go_ret
    exact ⟨_, rfl, Hs.out, by have := Hb1.out; go_grown⟩
end Go.Proofs.YtlmiebeffdcfhaaGreat
namespace Go.Proofs.YtlmiebeffdcfhaaGreat
open Go.RowKit
/-- IsValidMatrix. -/
def mtB (M : List (List Dw)) : Bool := decide (0 < M.length) && M.all fun r => decide (r.length = M.length) && stB r
theorem mtB_iff {M : List (List Dw)} : mtB M = true ↔ 0 < M.length ∧ ∀ r ∈ M, r.length = M.length ∧ stB r = true := by
  unfold mtB
  rw [Bool.and_eq_true, decide_eq_true_eq, List.all_eq_true]
  simp only [Bool.and_eq_true, decide_eq_true_eq]
theorem mtB_qc {M : List (List Dw)} (h : mtB M = true) : 0 < qc M.length := by
  obtain ⟨h0, h1⟩ := mtB_iff.1 h
  obtain ⟨e, s⟩ := h1 M[0] (List.getElem_mem h0)
  rw [← e]
  exact (stB_iff.1 s).2
theorem mtB_len {M : List (List Dw)} (h : mtB M = true) : M.length ≤ 16 := by have := qc_len (mtB_qc h); omega
theorem mtB_row {M : List (List Dw)} (h : mtB M = true) {j : Nat} {r : List Dw} (hr : M[j]? = some r) : r.length = M.length ∧ stB r = true := (mtB_iff.1 h).2 r (List.mem_of_getElem? hr)
/-- IdentityMatrix. -/
def idM (n : Int) : List (List Dw) := if 1 ≤ n ∧ n ≤ 4 then (List.range (2 ^ n.toNat)).map fun (i : Nat) => basisL n (i : Int) else []
/-- Columns. -/
def col (M : List (List Dw)) (k : Nat) : List Dw := M.map fun r => r.getD k .zero
def colsM (L : List (List Dw)) : List (List Dw) := (List.range L.length).map fun i => col L i
theorem col_len (M : List (List Dw)) (k : Nat) : (col M k).length = M.length := by rw [col, List.length_map]
theorem colsM_len (L : List (List Dw)) : (colsM L).length = L.length := by rw [colsM, List.length_map, List.length_range]
end Go.Proofs.YtlmiebeffdcfhaaGreat
namespace Go.Proofs.YtlmiebeffdcfhaaGreat
end Go.Proofs.YtlmiebeffdcfhaaGreat
namespace Go.Proofs.YtlmiebeffdcfhaaGreat
end Go.Proofs.YtlmiebeffdcfhaaGreat
namespace Go.Proofs.YtlmiebeffdcfhaaGreat
end Go.Proofs.YtlmiebeffdcfhaaGreat
namespace Go.Proofs.YtlmiebeffdcfhaaGreat
def EB (x : Dw) : Prop := -9223372036854775808 ≤ x.e ∧ x.e ≤ 9223372036854775807
theorem eb_ok {x : Dw} (h : x.ok) : EB x := by have := h.2; unfold EB; omega
theorem eb_zero : EB .zero := ⟨(by decide : (-9223372036854775808 : Int) ≤ 0), (by decide : (0 : Int) ≤ 9223372036854775807)⟩
theorem eb_mul (x y : Dw) : EB (dMulV x y) := by
  cases h : dMulB x y
  · rw [dMulV_no h]; exact eb_zero
  · exact eb_ok (dMulV_ok h)
end Go.Proofs.YtlmiebeffdcfhaaGreat
namespace Go.Proofs.YtlmiebeffdcfhaaGreat
open Go.RowKit
def amB (s x f : Dw) : Bool := dMulB x f && dAddB s (dMulV x f)
def amV (s x f : Dw) : Dw := if amB s x f then dAddV s (dMulV x f) else .zero
attribute [local irreducible] World.cell?
set_option maxRecDepth 100000 in
set_option maxHeartbeats 3200000 in
theorem iaddM (s x f : Dw) (w : World) (hs : EB s) (hx : EB x) (hf : EB f) :
    Calls Tryz.prog 135 #[(.agg #[.int .i64 s.n.a, .int .i64 s.n.b, .int .i64 s.n.c, .int .i64 s.n.d, .int .i64 s.e]), (.agg #[.int .i64 x.n.a, .int .i64 x.n.b, .int .i64 x.n.c, .int .i64 x.n.d, .int .i64 x.e]), (.agg #[.int .i64 f.n.a, .int .i64 f.n.b, .int .i64 f.n.c, .int .i64 f.n.d, .int .i64 f.e])] w fun e w' => e = .returned (.tuple #[(.agg #[.int .i64 (amV s x f).n.a, .int .i64 (amV s x f).n.b, .int .i64 (amV s x f).n.c, .int .i64 (amV s x f).n.d, .int .i64 (amV s x f).e]), .bool (amB s x f)]) ∧ Below w.heap.size w w' := by
  have Hm := Lib.hid (fun w => imulD_any x f w hx.1 hx.2 hf.1 hf.2)
  have hp := eb_mul x f
  have Ha := Lib.hid (fun w => iaddD_any s (dMulV x f) w hs.1 hs.2 hp.1 hp.2)
  have HB := Lib.hid (show amB s x f = (dMulB x f && dAddB s (dMulV x f)) from rfl)
  have HV := Lib.hid (show dMulB x f = true → amV s x f = dAddV s (dMulV x f) from fun h => by
    unfold amV amB
    rw [h, Bool.true_and]
    split
    · rfl
    · rename_i h2
      unfold dAddV
      rw [if_neg h2])
  have HN := Lib.hid (show dMulB x f = false → amV s x f = .zero from fun h => by unfold amV amB; rw [h]; rfl)
  clear hs hx hf hp
  generalize amV s x f = R at *
  generalize amB s x f = T at *
  generalize dAddB s (dMulV x f) = u at *
  generalize dAddV s (dMulV x f) = r at *
  generalize dMulV x f = P at *
  generalize dMulB x f = t at *
  have Hr0_0 := Lib.hid (alloc_blk (.cells #[.int .i64 0, .int .i64 0, .int .i64 0, .int .i64 0, .int .i64 0] 70) (alloc_blk (.cells #[.int .i64 f.n.a, .int .i64 f.n.b, .int .i64 f.n.c, .int .i64 f.n.d, .int .i64 f.e] 70) (alloc_blk (.cells #[.int .i64 x.n.a, .int .i64 x.n.b, .int .i64 x.n.c, .int .i64 x.n.d, .int .i64 x.e] 70) (heap_alloc_new w (.cells #[.int .i64 s.n.a, .int .i64 s.n.b, .int .i64 s.n.c, .int .i64 s.n.d, .int .i64 s.e] 70)))))
  have Hr0_1 := Lib.hid (alloc_blk (.cells #[.int .i64 0, .int .i64 0, .int .i64 0, .int .i64 0, .int .i64 0] 70) (alloc_blk (.cells #[.int .i64 f.n.a, .int .i64 f.n.b, .int .i64 f.n.c, .int .i64 f.n.d, .int .i64 f.e] 70) (show ((w.alloc (.cells #[.int .i64 s.n.a, .int .i64 s.n.b, .int .i64 s.n.c, .int .i64 s.n.d, .int .i64 s.e] 70)).alloc (.cells #[.int .i64 x.n.a, .int .i64 x.n.b, .int .i64 x.n.c, .int .i64 x.n.d, .int .i64 x.e] 70)).heap[w.heap.size + 1]? = some (.cells #[.int .i64 x.n.a, .int .i64 x.n.b, .int .i64 x.n.c, .int .i64 x.n.d, .int .i64 x.e] 70 (0, 0)) from by simpa using heap_alloc_new (w.alloc (.cells #[.int .i64 s.n.a, .int .i64 s.n.b, .int .i64 s.n.c, .int .i64 s.n.d, .int .i64 s.e] 70)) (.cells #[.int .i64 x.n.a, .int .i64 x.n.b, .int .i64 x.n.c, .int .i64 x.n.d, .int .i64 x.e] 70))))
  have Hr0_2 := Lib.hid (alloc_blk (.cells #[.int .i64 0, .int .i64 0, .int .i64 0, .int .i64 0, .int .i64 0] 70) (show (((w.alloc (.cells #[.int .i64 s.n.a, .int .i64 s.n.b, .int .i64 s.n.c, .int .i64 s.n.d, .int .i64 s.e] 70)).alloc (.cells #[.int .i64 x.n.a, .int .i64 x.n.b, .int .i64 x.n.c, .int .i64 x.n.d, .int .i64 x.e] 70)).alloc (.cells #[.int .i64 f.n.a, .int .i64 f.n.b, .int .i64 f.n.c, .int .i64 f.n.d, .int .i64 f.e] 70)).heap[w.heap.size + 2]? = some (.cells #[.int .i64 f.n.a, .int .i64 f.n.b, .int .i64 f.n.c, .int .i64 f.n.d, .int .i64 f.e] 70 (0, 0)) from by simpa using heap_alloc_new ((w.alloc (.cells #[.int .i64 s.n.a, .int .i64 s.n.b, .int .i64 s.n.c, .int .i64 s.n.d, .int .i64 s.e] 70)).alloc (.cells #[.int .i64 x.n.a, .int .i64 x.n.b, .int .i64 x.n.c, .int .i64 x.n.d, .int .i64 x.e] 70)) (.cells #[.int .i64 f.n.a, .int .i64 f.n.b, .int .i64 f.n.c, .int .i64 f.n.d, .int .i64 f.e] 70)))
  have Hr0_3 := Lib.hid (show ((((w.alloc (.cells #[.int .i64 s.n.a, .int .i64 s.n.b, .int .i64 s.n.c, .int .i64 s.n.d, .int .i64 s.e] 70)).alloc (.cells #[.int .i64 x.n.a, .int .i64 x.n.b, .int .i64 x.n.c, .int .i64 x.n.d, .int .i64 x.e] 70)).alloc (.cells #[.int .i64 f.n.a, .int .i64 f.n.b, .int .i64 f.n.c, .int .i64 f.n.d, .int .i64 f.e] 70)).alloc (.cells #[.int .i64 0, .int .i64 0, .int .i64 0, .int .i64 0, .int .i64 0] 70)).heap[w.heap.size + 3]? = some (.cells #[.int .i64 0, .int .i64 0, .int .i64 0, .int .i64 0, .int .i64 0] 70 (0, 0)) from by simpa using heap_alloc_new (((w.alloc (.cells #[.int .i64 s.n.a, .int .i64 s.n.b, .int .i64 s.n.c, .int .i64 s.n.d, .int .i64 s.e] 70)).alloc (.cells #[.int .i64 x.n.a, .int .i64 x.n.b, .int .i64 x.n.c, .int .i64 x.n.d, .int .i64 x.e] 70)).alloc (.cells #[.int .i64 f.n.a, .int .i64 f.n.b, .int .i64 f.n.c, .int .i64 f.n.d, .int .i64 f.e] 70)) (.cells #[.int .i64 0, .int .i64 0, .int .i64 0, .int .i64 0, .int .i64 0] 70))
  cases t
  · obtain rfl : T = false := HB.out
    obtain rfl := HN.out rfl
    go_enter Tryz.func135, Tryz.ntmps135
    go_wp2_with fail
    refine (Hm.out _).mono ?_
    rintro e w1 ⟨rfl, hb1⟩
    have hr0 := below_blk hb1 (lt_of_block Hr0_0.out) Hr0_0.out
    have zg0 := lt_of_block hr0
    obtain ⟨c0_0, c0_1, c0_2, c0_3, c0_4⟩ := blk_cells5 hr0
    have Hr1_0 := Lib.hid (alloc_blk (.cells #[.int .i64 P.n.a, .int .i64 P.n.b, .int .i64 P.n.c, .int .i64 P.n.d, .int .i64 P.e] 70) hr0)
    have hr1 := below_blk hb1 (lt_of_block Hr0_1.out) Hr0_1.out
    have zg1 := lt_of_block hr1
    obtain ⟨c1_0, c1_1, c1_2, c1_3, c1_4⟩ := blk_cells5 hr1
    have Hr1_1 := Lib.hid (alloc_blk (.cells #[.int .i64 P.n.a, .int .i64 P.n.b, .int .i64 P.n.c, .int .i64 P.n.d, .int .i64 P.e] 70) hr1)
    have hr2 := below_blk hb1 (lt_of_block Hr0_2.out) Hr0_2.out
    have zg2 := lt_of_block hr2
    obtain ⟨c2_0, c2_1, c2_2, c2_3, c2_4⟩ := blk_cells5 hr2
    have Hr1_2 := Lib.hid (alloc_blk (.cells #[.int .i64 P.n.a, .int .i64 P.n.b, .int .i64 P.n.c, .int .i64 P.n.d, .int .i64 P.e] 70) hr2)
    have hr3 := below_blk hb1 (lt_of_block Hr0_3.out) Hr0_3.out
    have zg3 := lt_of_block hr3
    obtain ⟨c3_0, c3_1, c3_2, c3_3, c3_4⟩ := blk_cells5 hr3
    have f3 := fun o => free_at hr3 o
    have Hq1_3 := Lib.hid hr3
    have Hr1_3 := Lib.hid (alloc_blk (.cells #[.int .i64 P.n.a, .int .i64 P.n.b, .int .i64 P.n.c, .int .i64 P.n.d, .int .i64 P.e] 70) hr3)
    have hb1 := below_up (B := w.heap.size) (w := w) (by go_grown) hb1 (by simp <;> omega)
    have Hp1 := Lib.hid hb1
    have Hb1 := Lib.hid (Below.alloc hb1 (Below.size hb1) (.cells #[.int .i64 P.n.a, .int .i64 P.n.b, .int .i64 P.n.c, .int .i64 P.n.d, .int .i64 P.e] 70))
    have Hr1_4 := Lib.hid (heap_alloc_new w1 (.cells #[.int .i64 P.n.a, .int .i64 P.n.b, .int .i64 P.n.c, .int .i64 P.n.d, .int .i64 P.e] 70))
    clear hr0 hr1 hr2 hr3
    clear hb1
    go_wp2_with fail
    obtain ⟨k0, k1, k2, k3, k4⟩ := blk_cells5 (alloc_blk (.cells #[.int .i64 P.n.a, .int .i64 P.n.b, .int .i64 P.n.c, .int .i64 P.n.d, .int .i64 P.e] 70) (set5_at (u0 := .int .i64 0) (u1 := .int .i64 0) (u2 := .int .i64 0) (u3 := .int .i64 0) (u4 := .int .i64 0) Hq1_3.out))
    refine bodyPost_ret (v := .tuple #[(.agg #[.int .i64 Dw.zero.n.a, .int .i64 Dw.zero.n.b, .int .i64 Dw.zero.n.c, .int .i64 Dw.zero.n.d, .int .i64 Dw.zero.e]), .bool false]) (by simp only [results, Tryz.results135]; simp [go_sem, k0, k1, k2, k3, k4, Dw.zero, Zw.zero]) rfl ⟨rfl, ?_⟩
    have := Hp1.out
    go_grown
  · obtain rfl : T = u := HB.out
    obtain rfl := HV.out rfl
    go_enter Tryz.func135, Tryz.ntmps135
    go_wp2_with fail
    refine (Hm.out _).mono ?_
    rintro e w1 ⟨rfl, hb1⟩
    have hr0 := below_blk hb1 (lt_of_block Hr0_0.out) Hr0_0.out
    have zg0 := lt_of_block hr0
    obtain ⟨c0_0, c0_1, c0_2, c0_3, c0_4⟩ := blk_cells5 hr0
    have Hr1_0 := Lib.hid (alloc_blk (.cells #[.int .i64 P.n.a, .int .i64 P.n.b, .int .i64 P.n.c, .int .i64 P.n.d, .int .i64 P.e] 70) hr0)
    have hr1 := below_blk hb1 (lt_of_block Hr0_1.out) Hr0_1.out
    have zg1 := lt_of_block hr1
    obtain ⟨c1_0, c1_1, c1_2, c1_3, c1_4⟩ := blk_cells5 hr1
    have Hr1_1 := Lib.hid (alloc_blk (.cells #[.int .i64 P.n.a, .int .i64 P.n.b, .int .i64 P.n.c, .int .i64 P.n.d, .int .i64 P.e] 70) hr1)
    have hr2 := below_blk hb1 (lt_of_block Hr0_2.out) Hr0_2.out
    have zg2 := lt_of_block hr2
    obtain ⟨c2_0, c2_1, c2_2, c2_3, c2_4⟩ := blk_cells5 hr2
    have Hr1_2 := Lib.hid (alloc_blk (.cells #[.int .i64 P.n.a, .int .i64 P.n.b, .int .i64 P.n.c, .int .i64 P.n.d, .int .i64 P.e] 70) hr2)
    have hr3 := below_blk hb1 (lt_of_block Hr0_3.out) Hr0_3.out
    have zg3 := lt_of_block hr3
    obtain ⟨c3_0, c3_1, c3_2, c3_3, c3_4⟩ := blk_cells5 hr3
    have f3 := fun o => free_at hr3 o
    have Hq1_3 := Lib.hid hr3
    have Hr1_3 := Lib.hid (alloc_blk (.cells #[.int .i64 P.n.a, .int .i64 P.n.b, .int .i64 P.n.c, .int .i64 P.n.d, .int .i64 P.e] 70) hr3)
    have hb1 := below_up (B := w.heap.size) (w := w) (by go_grown) hb1 (by simp <;> omega)
    have Hp1 := Lib.hid hb1
    have Hb1 := Lib.hid (Below.alloc hb1 (Below.size hb1) (.cells #[.int .i64 P.n.a, .int .i64 P.n.b, .int .i64 P.n.c, .int .i64 P.n.d, .int .i64 P.e] 70))
    have Hr1_4 := Lib.hid (heap_alloc_new w1 (.cells #[.int .i64 P.n.a, .int .i64 P.n.b, .int .i64 P.n.c, .int .i64 P.n.d, .int .i64 P.e] 70))
    clear hr0 hr1 hr2 hr3
    clear hb1
    go_wp2_with fail
    refine (Ha.out _).mono ?_
    rintro e w2 ⟨rfl, hb2⟩
    clear zg0 c0_0 c0_1 c0_2 c0_3 c0_4 zg1 c1_0 c1_1 c1_2 c1_3 c1_4 zg2 c2_0 c2_1 c2_2 c2_3 c2_4 zg3 c3_0 c3_1 c3_2 c3_3 c3_4 f3
    have hr0 := below_blk hb2 (lt_of_block Hr1_0.out) Hr1_0.out
    have zg0 := lt_of_block hr0
    obtain ⟨c0_0, c0_1, c0_2, c0_3, c0_4⟩ := blk_cells5 hr0
    have Hr2_0 := Lib.hid hr0
    have hr1 := below_blk hb2 (lt_of_block Hr1_1.out) Hr1_1.out
    have zg1 := lt_of_block hr1
    obtain ⟨c1_0, c1_1, c1_2, c1_3, c1_4⟩ := blk_cells5 hr1
    have Hr2_1 := Lib.hid hr1
    have hr2 := below_blk hb2 (lt_of_block Hr1_2.out) Hr1_2.out
    have zg2 := lt_of_block hr2
    obtain ⟨c2_0, c2_1, c2_2, c2_3, c2_4⟩ := blk_cells5 hr2
    have Hr2_2 := Lib.hid hr2
    have hr3 := below_blk hb2 (lt_of_block Hr1_3.out) Hr1_3.out
    have zg3 := lt_of_block hr3
    obtain ⟨c3_0, c3_1, c3_2, c3_3, c3_4⟩ := blk_cells5 hr3
    have f3 := fun o => free_at hr3 o
    have Hq2_3 := Lib.hid hr3
    have Hr2_3 := Lib.hid hr3
    have hr4 := below_blk hb2 (lt_of_block Hr1_4.out) Hr1_4.out
    have zg4 := lt_of_block hr4
    obtain ⟨c4_0, c4_1, c4_2, c4_3, c4_4⟩ := blk_cells5 hr4
    have Hr2_4 := Lib.hid hr4
    have hb2 := below_nx Hb1.out hb2
    have Hp2 := Lib.hid hb2
    have Hb2 := Lib.hid hb2
    clear hr0 hr1 hr2 hr3 hr4
    clear hb2
    go_wp2_with fail
    obtain ⟨k0, k1, k2, k3, k4⟩ := blk_cells5 (set5_at (u0 := .int .i64 R.n.a) (u1 := .int .i64 R.n.b) (u2 := .int .i64 R.n.c) (u3 := .int .i64 R.n.d) (u4 := .int .i64 R.e) Hq2_3.out)
    refine bodyPost_ret (v := .tuple #[(.agg #[.int .i64 R.n.a, .int .i64 R.n.b, .int .i64 R.n.c, .int .i64 R.n.d, .int .i64 R.e]), .bool T]) (by simp only [results, Tryz.results135]; simp [go_sem, k0, k1, k2, k3, k4]) rfl ⟨rfl, ?_⟩
    have := Hp2.out
    go_grown
end Go.Proofs.YtlmiebeffdcfhaaGreat
namespace Go.Proofs.YtlmiebeffdcfhaaGreat
open Go.RowKit
attribute [local irreducible] World.cell?
end Go.Proofs.YtlmiebeffdcfhaaGreat
