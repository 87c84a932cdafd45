/- BaseB18: several of our texts in one: DsM DsF DsO DsB RwS. -/
import Derived.Test.YtlmiebeffdcfhaaGreatUBaseB06
import Derived.Test.YtlmiebeffdcfhaaGreatUDwS
import Derived.Test.YtlmiebeffdcfhaaGreatUBaseB05
import Derived.Deep.Slices
import Derived.Test.YtlmiebeffdcfhaaGreatUBaseB22
namespace Go.Proofs.YtlmiebeffdcfhaaGreat
open Go.RowKit
/-- The mark that begins at k. -/
def mk5 (k : Nat) : Dw := ⟨⟨(k : Int), ((k + 1 : Nat) : Int), ((k + 2 : Nat) : Int), ((k + 3 : Nat) : Int)⟩, ((k + 4 : Nat) : Int)⟩
/-- The marks of a row of n that begins at k. -/
def marks (k n : Nat) : List Dw := (List.range n).map fun j => mk5 (k + j * 5)
/-- A slice whose row lies in the blocks from B up to C. -/
def DSc (w : World) (B C : Nat) (v : Value) (l : List Dw) : Prop :=
  ∃ a cap, v = .slice a l.length cap ∧ l.length ≤ cap ∧ (0 < l.length → ∃ g, a = some ⟨g, 0, none⟩ ∧ B ≤ g ∧ g < C ∧ DRow w g l)
theorem DSl.upto {w : World} {B : Nat} {v : Value} {l : List Dw} (h : DSl w B v l) : DSc w B w.heap.size v l := by
  obtain ⟨a, cap, h1, h2, h3⟩ := h
  exact ⟨a, cap, h1, h2, fun hl => by obtain ⟨g, e, hB, hr⟩ := h3 hl; exact ⟨g, e, hB, hr.lt, hr⟩⟩
theorem DSc.dsl {w : World} {B C : Nat} {v : Value} {l : List Dw} (h : DSc w B C v l) : DSl w B v l := by
  obtain ⟨a, cap, h1, h2, h3⟩ := h
  exact ⟨a, cap, h1, h2, fun hl => by obtain ⟨g, e, hB, _, hr⟩ := h3 hl; exact ⟨g, e, hB, hr⟩⟩
theorem DSc.below {w w' : World} {B C : Nat} {v : Value} {l : List Dw} (h : DSc w B C v l) (hb : Below w.heap.size w w') : DSc w' B C v l := by
  obtain ⟨a, cap, h1, h2, h3⟩ := h
  exact ⟨a, cap, h1, h2, fun hl => by obtain ⟨g, e, hB, hC, hr⟩ := h3 hl; exact ⟨g, e, hB, hC, hr.below hb hr.lt⟩⟩
/-- Nothing has turned but in the blocks from B up to C. -/
def Mid (B C : Nat) (w w' : World) : Prop := Below B w w' ∧ ∀ b, C ≤ b → b < w.heap.size → w'.heap[b]? = w.heap[b]?
theorem Mid.dsl {B C D : Nat} {w w' : World} {v : Value} {l : List Dw} (h : Mid B C w w') (k : DSl w D v l) (hD : C ≤ D) : DSl w' D v l :=
  k.block fun g hg hl => h.2 g (Nat.le_trans hD hg) hl
theorem Mid.set {B C g o : Nat} {w w' : World} (h : Mid B C w w') (hB : B ≤ g) (hC : g < C) (u : Value) : Mid B C w (w'.setCell ⟨g, o, none⟩ u) :=
  ⟨h.1.setCell (p := ⟨g, o, none⟩) hB u, fun b hb hl => by rw [Below.heap_setCell _ _ _ _ (by show b ≠ g; omega)]; exact h.2 b hb hl⟩
theorem Mid.refl (B C : Nat) (w : World) : Mid B C w w := ⟨Below.refl _ _, fun _ _ _ => rfl⟩
attribute [local irreducible] World.cell?
end Go.Proofs.YtlmiebeffdcfhaaGreat
namespace Go.Proofs.YtlmiebeffdcfhaaGreat
open Go.RowKit
theorem row_below {w w' : World} {base : Nat} {e : TypeId} {size : Nat} {v : Value} {n : Nat} {xs : List Value} (h : w.ownsRow base e size v n xs) (hb : Below w.heap.size w w') : w'.ownsRow base e size v n xs := by
  obtain ⟨h1, h2⟩ := h
  refine ⟨h1, ?_⟩
  rcases h2 with h2 | ⟨g, cap, cur, a, b, c, d⟩
  · exact .inl h2
  · exact .inr ⟨g, cap, cur, a, b, by rw [hb.block g (lt_of_block c)]; exact c, d⟩
/-- An element of a row and a box. -/
def FB (w : World) (g o : Nat) (x : Dw) (b : Nat) (y : Dw) (w' : World) : Prop := w'.cell? ⟨g, o, none⟩ = some (.int .i64 x.n.a) ∧ w'.cell? ⟨g, o + 1, none⟩ = some (.int .i64 x.n.b) ∧ w'.cell? ⟨g, o + 2, none⟩ = some (.int .i64 x.n.c) ∧ w'.cell? ⟨g, o + 3, none⟩ = some (.int .i64 x.n.d) ∧ w'.cell? ⟨g, o + 4, none⟩ = some (.int .i64 x.e) ∧ w'.cell? ⟨b, 0, none⟩ = some (.int .i64 y.n.a) ∧ w'.cell? ⟨b, 1, none⟩ = some (.int .i64 y.n.b) ∧ w'.cell? ⟨b, 2, none⟩ = some (.int .i64 y.n.c) ∧ w'.cell? ⟨b, 3, none⟩ = some (.int .i64 y.n.d) ∧ w'.cell? ⟨b, 4, none⟩ = some (.int .i64 y.e) ∧ g < w'.heap.size ∧ b < w'.heap.size ∧ Below w.heap.size w w'
theorem FB.drew {w w' : World} {g o b : Nat} {x y : Dw} (h : FB w g o x b y w') : FB w g o x b y w'.drew :=
  let ⟨a0, a1, a2, a3, a4, b0, b1, b2, b3, b4, z, z', l⟩ := h; ⟨a0, a1, a2, a3, a4, b0, b1, b2, b3, b4, z, z', l.drew⟩
theorem FB.below {w w1 w2 : World} {g o b : Nat} {x y : Dw} (h : FB w g o x b y w1) (hb : Below w1.heap.size w1 w2) : FB w g o x b y w2 :=
  let ⟨a0, a1, a2, a3, a4, b0, b1, b2, b3, b4, z, z', l⟩ := h
  ⟨cell_below a0 hb z, cell_below a1 hb z, cell_below a2 hb z, cell_below a3 hb z, cell_below a4 hb z, cell_below b0 hb z', cell_below b1 hb z', cell_below b2 hb z', cell_below b3 hb z', cell_below b4 hb z', Nat.lt_of_lt_of_le z hb.size, Nat.lt_of_lt_of_le z' hb.size, below_up l hb l.size⟩
theorem FB.alloc {w w1 : World} {g o b : Nat} {x y : Dw} (h : FB w g o x b y w1) (p : Obj) : FB w g o x b y (w1.alloc p) := h.below ((Below.refl _ _).alloc (Nat.le_refl _) p)
theorem FB.realloc {w W : World} {g o b : Nat} {x y : Dw} {lim : Nat} {p q : Obj} (h : FB w g o x b y (W.alloc p)) (hq : lim ≤ W.heap.size) (hn : g < lim ∧ b < lim) (hw : w.heap.size ≤ lim) : FB w g o x b y (W.alloc q) :=
  let ⟨a0, a1, a2, a3, a4, b0, b1, b2, b3, b4, _, _, l⟩ := h
  ⟨cell_realloc a0 (by omega), cell_realloc a1 (by omega), cell_realloc a2 (by omega), cell_realloc a3 (by omega), cell_realloc a4 (by omega), cell_realloc b0 (by omega), cell_realloc b1 (by omega), cell_realloc b2 (by omega), cell_realloc b3 (by omega), cell_realloc b4 (by omega), (by simp; omega), (by simp; omega), below_realloc l (by omega) (by omega)⟩
theorem FB.set5 {w W : World} {g o b : Nat} {x y : Dw} {lim k : Nat} {u0 u1 u2 u3 u4 : Value} (h : FB w g o x b y W) (hq : lim ≤ k) (hn : g < lim ∧ b < lim) (hw : w.heap.size ≤ lim) :
    FB w g o x b y (((((W.setCell ⟨k, 0, none⟩ u0).setCell ⟨k, 1, none⟩ u1).setCell ⟨k, 2, none⟩ u2).setCell ⟨k, 3, none⟩ u3).setCell ⟨k, 4, none⟩ u4) :=
  let ⟨a0, a1, a2, a3, a4, b0, b1, b2, b3, b4, z, z', l⟩ := h
  ⟨cell_far5 a0 (by omega), cell_far5 a1 (by omega), cell_far5 a2 (by omega), cell_far5 a3 (by omega), cell_far5 a4 (by omega), cell_far5 b0 (by omega), cell_far5 b1 (by omega), cell_far5 b2 (by omega), cell_far5 b3 (by omega), cell_far5 b4 (by omega), (by simpa [World.setCell] using z), (by simpa [World.setCell] using z'), ((((l.setCell (p := ⟨k, 0, none⟩) (Nat.le_trans hw hq) _).setCell (p := ⟨k, 1, none⟩) (Nat.le_trans hw hq) _).setCell (p := ⟨k, 2, none⟩) (Nat.le_trans hw hq) _).setCell (p := ⟨k, 3, none⟩) (Nat.le_trans hw hq) _).setCell (p := ⟨k, 4, none⟩) (Nat.le_trans hw hq) _⟩
theorem FB.low {w w' : World} {g o b : Nat} {x y : Dw} (h : FB w g o x b y w') : Below w.heap.size w w' := let ⟨_, _, _, _, _, _, _, _, _, _, _, _, l⟩ := h; l
theorem E2.alloc {w w1 : World} {g g' o : Nat} {x y : Dw} (h : E2 w g g' o x y w1) (p : Obj) : E2 w g g' o x y (w1.alloc p) := h.below ((Below.refl _ _).alloc (Nat.le_refl _) p)
theorem E2.realloc {w W : World} {g g' o : Nat} {x y : Dw} {lim : Nat} {p q : Obj} (h : E2 w g g' o x y (W.alloc p)) (hq : lim ≤ W.heap.size) (hn : g < lim ∧ g' < lim) (hw : w.heap.size ≤ lim) : E2 w g g' o x y (W.alloc q) :=
  let ⟨a0, a1, a2, a3, a4, b0, b1, b2, b3, b4, _, _, l⟩ := h
  ⟨cell_realloc a0 (by omega), cell_realloc a1 (by omega), cell_realloc a2 (by omega), cell_realloc a3 (by omega), cell_realloc a4 (by omega), cell_realloc b0 (by omega), cell_realloc b1 (by omega), cell_realloc b2 (by omega), cell_realloc b3 (by omega), cell_realloc b4 (by omega), (by simp; omega), (by simp; omega), below_realloc l (by omega) (by omega)⟩
theorem E2.set5 {w W : World} {g g' o : Nat} {x y : Dw} {lim k : Nat} {u0 u1 u2 u3 u4 : Value} (h : E2 w g g' o x y W) (hq : lim ≤ k) (hn : g < lim ∧ g' < lim) (hw : w.heap.size ≤ lim) :
    E2 w g g' o x y (((((W.setCell ⟨k, 0, none⟩ u0).setCell ⟨k, 1, none⟩ u1).setCell ⟨k, 2, none⟩ u2).setCell ⟨k, 3, none⟩ u3).setCell ⟨k, 4, none⟩ u4) :=
  let ⟨a0, a1, a2, a3, a4, b0, b1, b2, b3, b4, z, z', l⟩ := h
  ⟨cell_far5 a0 (by omega), cell_far5 a1 (by omega), cell_far5 a2 (by omega), cell_far5 a3 (by omega), cell_far5 a4 (by omega), cell_far5 b0 (by omega), cell_far5 b1 (by omega), cell_far5 b2 (by omega), cell_far5 b3 (by omega), cell_far5 b4 (by omega), (by simpa [World.setCell] using z), (by simpa [World.setCell] using z'), ((((l.setCell (p := ⟨k, 0, none⟩) (Nat.le_trans hw hq) _).setCell (p := ⟨k, 1, none⟩) (Nat.le_trans hw hq) _).setCell (p := ⟨k, 2, none⟩) (Nat.le_trans hw hq) _).setCell (p := ⟨k, 3, none⟩) (Nat.le_trans hw hq) _).setCell (p := ⟨k, 4, none⟩) (Nat.le_trans hw hq) _⟩
end Go.Proofs.YtlmiebeffdcfhaaGreat
namespace Go.Proofs.YtlmiebeffdcfhaaGreat
open Go.ChangeShapes Go.WideShapes Go.ChangeAt Go.RowKit Go.Lib Go.Joins
end Go.Proofs.YtlmiebeffdcfhaaGreat
namespace Go.Proofs.YtlmiebeffdcfhaaGreat
open Go.RowKit
theorem rep_at {N k : Nat} (h : k < N) : (List.replicate N Dw.zero)[k]? = some .zero := by rw [List.getElem?_replicate, if_pos h]
attribute [local irreducible] World.cell?
set_option maxRecDepth 100000 in
set_option maxHeartbeats 1600000 in
theorem sbasis1 (k : Nat) (w : World) (hk : k < 2) :
    Calls Tryz.prog 36 #[.int .i64 1, .int .i64 k] w fun e w' => ∃ v, e = .returned v ∧ DSl w' w.heap.size v ((List.replicate 2 Dw.zero).set k oneD) ∧ Below w.heap.size w w' := by
  obtain ⟨i0, hi, hz0, hz1, hz2⟩ := info_parts infoDw
  have H1 := Lib.hid (fun w => lin_any 1 1 4 true w (by decide))
  have H2 := Lib.hid (fun w => lin_any k 0 1 true w (by simp; omega))
  have Ho := Lib.hid (fun w => sone_any w)
  go_enter Tryz.func36, Tryz.ntmps36
  go_wp2_with fail
  refine (H1.out _).mono ?_
  rintro e w1 ⟨rfl, rfl⟩
  go_wp2_with fail
  refine (H2.out _).mono ?_
  rintro e w1 ⟨rfl, rfl⟩
  go_wp2_with (first | (at_make; refine wpList_make_full _ rfl _ _ 59 rfl w.heap.size 70 i0 (.agg #[.int .i64 0, .int .i64 0, .int .i64 0, .int .i64 0, .int .i64 0]) 5 Tryz.underlying59 hi hz0 hz1 .i64 .i64 2 2 2 rfl rfl rfl rfl (by rw [hz2]; omega) (by unfold maxLen; omega) (Nat.le_refl _) ?_))
  intro w1 hown hgrow
  have hb1 : Below w.heap.size w w1 := (Below.refl _ _).grown hgrow (Nat.le_refl _) (fun k hk => by cases hk)
  have hrow1 : DRow w1 w.heap.size (List.replicate 2 .zero) := by
    rcases hown.2 with ⟨h, _⟩ | ⟨g, cap, cur, hv, hb, hg, _, _, hs, ht⟩
    · cases h
    · obtain ⟨rfl, rfl⟩ : g = w.heap.size ∧ cap = 2 := by injection hv with hv _ hv2; injection hv with hv; injection hv with hv; exact ⟨hv.symm, hv2.symm⟩
      exact ⟨cur, hg, by rw [List.length_replicate, ht]; exact made_flat 2⟩
  have Hb1 := Lib.hid hb1
  have Hrow1 := Lib.hid hrow1
  clear hown hgrow hb1 hrow1
  go_wp2_with fail
  refine (Ho.out _).mono ?_
  rintro e w2 ⟨rfl, hb2⟩
  have hr2 := Hrow1.out.below hb2 Hrow1.out.lt
  obtain ⟨e0, e1, e2, e3, e4⟩ := hr2.cells (rep_at hk)
  have f1 := fun o => hr2.free o
  have Hr3 := Lib.hid (hr2.put k (by simpa using hk) oneD)
  have Hb2 := Lib.hid (Hb1.out.trans (hb2.mono Hb1.out.size))
  clear hr2 hb2 Hrow1 H1 H2 Ho
  go_wp2_with fail
  go_ret
  refine ⟨_, rfl, DSl.mk (by simp) (Nat.le_refl _) (Nat.le_refl _) Hr3.out, ?_⟩
  have := Hb2.out
  go_grown
set_option maxRecDepth 100000 in
set_option maxHeartbeats 1600000 in
theorem sbasis2 (k : Nat) (w : World) (hk : k < 4) :
    Calls Tryz.prog 36 #[.int .i64 2, .int .i64 k] w fun e w' => ∃ v, e = .returned v ∧ DSl w' w.heap.size v ((List.replicate 4 Dw.zero).set k oneD) ∧ Below w.heap.size w w' := by
  obtain ⟨i0, hi, hz0, hz1, hz2⟩ := info_parts infoDw
  have H1 := Lib.hid (fun w => lin_any 2 1 4 true w (by decide))
  have H2 := Lib.hid (fun w => lin_any k 0 3 true w (by simp; omega))
  have Ho := Lib.hid (fun w => sone_any w)
  go_enter Tryz.func36, Tryz.ntmps36
  go_wp2_with fail
  refine (H1.out _).mono ?_
  rintro e w1 ⟨rfl, rfl⟩
  go_wp2_with fail
  refine (H2.out _).mono ?_
  rintro e w1 ⟨rfl, rfl⟩
  go_wp2_with (first | (at_make; refine wpList_make_full _ rfl _ _ 59 rfl w.heap.size 70 i0 (.agg #[.int .i64 0, .int .i64 0, .int .i64 0, .int .i64 0, .int .i64 0]) 5 Tryz.underlying59 hi hz0 hz1 .i64 .i64 4 4 4 rfl rfl rfl rfl (by rw [hz2]; omega) (by unfold maxLen; omega) (Nat.le_refl _) ?_))
  intro w1 hown hgrow
  have hb1 : Below w.heap.size w w1 := (Below.refl _ _).grown hgrow (Nat.le_refl _) (fun k hk => by cases hk)
  have hrow1 : DRow w1 w.heap.size (List.replicate 4 .zero) := by
    rcases hown.2 with ⟨h, _⟩ | ⟨g, cap, cur, hv, hb, hg, _, _, hs, ht⟩
    · cases h
    · obtain ⟨rfl, rfl⟩ : g = w.heap.size ∧ cap = 4 := by injection hv with hv _ hv2; injection hv with hv; injection hv with hv; exact ⟨hv.symm, hv2.symm⟩
      exact ⟨cur, hg, by rw [List.length_replicate, ht]; exact made_flat 4⟩
  have Hb1 := Lib.hid hb1
  have Hrow1 := Lib.hid hrow1
  clear hown hgrow hb1 hrow1
  go_wp2_with fail
  refine (Ho.out _).mono ?_
  rintro e w2 ⟨rfl, hb2⟩
  have hr2 := Hrow1.out.below hb2 Hrow1.out.lt
  obtain ⟨e0, e1, e2, e3, e4⟩ := hr2.cells (rep_at hk)
  have f1 := fun o => hr2.free o
  have Hr3 := Lib.hid (hr2.put k (by simpa using hk) oneD)
  have Hb2 := Lib.hid (Hb1.out.trans (hb2.mono Hb1.out.size))
  clear hr2 hb2 Hrow1 H1 H2 Ho
  go_wp2_with fail
  go_ret
  refine ⟨_, rfl, DSl.mk (by simp) (Nat.le_refl _) (Nat.le_refl _) Hr3.out, ?_⟩
  have := Hb2.out
  go_grown
set_option maxRecDepth 100000 in
set_option maxHeartbeats 1600000 in
theorem sbasis3 (k : Nat) (w : World) (hk : k < 8) :
    Calls Tryz.prog 36 #[.int .i64 3, .int .i64 k] w fun e w' => ∃ v, e = .returned v ∧ DSl w' w.heap.size v ((List.replicate 8 Dw.zero).set k oneD) ∧ Below w.heap.size w w' := by
  obtain ⟨i0, hi, hz0, hz1, hz2⟩ := info_parts infoDw
  have H1 := Lib.hid (fun w => lin_any 3 1 4 true w (by decide))
  have H2 := Lib.hid (fun w => lin_any k 0 7 true w (by simp; omega))
  have Ho := Lib.hid (fun w => sone_any w)
  go_enter Tryz.func36, Tryz.ntmps36
  go_wp2_with fail
  refine (H1.out _).mono ?_
  rintro e w1 ⟨rfl, rfl⟩
  go_wp2_with fail
  refine (H2.out _).mono ?_
  rintro e w1 ⟨rfl, rfl⟩
  go_wp2_with (first | (at_make; refine wpList_make_full _ rfl _ _ 59 rfl w.heap.size 70 i0 (.agg #[.int .i64 0, .int .i64 0, .int .i64 0, .int .i64 0, .int .i64 0]) 5 Tryz.underlying59 hi hz0 hz1 .i64 .i64 8 8 8 rfl rfl rfl rfl (by rw [hz2]; omega) (by unfold maxLen; omega) (Nat.le_refl _) ?_))
  intro w1 hown hgrow
  have hb1 : Below w.heap.size w w1 := (Below.refl _ _).grown hgrow (Nat.le_refl _) (fun k hk => by cases hk)
  have hrow1 : DRow w1 w.heap.size (List.replicate 8 .zero) := by
    rcases hown.2 with ⟨h, _⟩ | ⟨g, cap, cur, hv, hb, hg, _, _, hs, ht⟩
    · cases h
    · obtain ⟨rfl, rfl⟩ : g = w.heap.size ∧ cap = 8 := by injection hv with hv _ hv2; injection hv with hv; injection hv with hv; exact ⟨hv.symm, hv2.symm⟩
      exact ⟨cur, hg, by rw [List.length_replicate, ht]; exact made_flat 8⟩
  have Hb1 := Lib.hid hb1
  have Hrow1 := Lib.hid hrow1
  clear hown hgrow hb1 hrow1
  go_wp2_with fail
  refine (Ho.out _).mono ?_
  rintro e w2 ⟨rfl, hb2⟩
  have hr2 := Hrow1.out.below hb2 Hrow1.out.lt
  obtain ⟨e0, e1, e2, e3, e4⟩ := hr2.cells (rep_at hk)
  have f1 := fun o => hr2.free o
  have Hr3 := Lib.hid (hr2.put k (by simpa using hk) oneD)
  have Hb2 := Lib.hid (Hb1.out.trans (hb2.mono Hb1.out.size))
  clear hr2 hb2 Hrow1 H1 H2 Ho
  go_wp2_with fail
  go_ret
  refine ⟨_, rfl, DSl.mk (by simp) (Nat.le_refl _) (Nat.le_refl _) Hr3.out, ?_⟩
  have := Hb2.out
  go_grown
set_option maxRecDepth 100000 in
set_option maxHeartbeats 1600000 in
theorem sbasis4 (k : Nat) (w : World) (hk : k < 16) :
    Calls Tryz.prog 36 #[.int .i64 4, .int .i64 k] w fun e w' => ∃ v, e = .returned v ∧ DSl w' w.heap.size v ((List.replicate 16 Dw.zero).set k oneD) ∧ Below w.heap.size w w' := by
  obtain ⟨i0, hi, hz0, hz1, hz2⟩ := info_parts infoDw
  have H1 := Lib.hid (fun w => lin_any 4 1 4 true w (by decide))
  have H2 := Lib.hid (fun w => lin_any k 0 15 true w (by simp; omega))
  have Ho := Lib.hid (fun w => sone_any w)
  go_enter Tryz.func36, Tryz.ntmps36
  go_wp2_with fail
  refine (H1.out _).mono ?_
  rintro e w1 ⟨rfl, rfl⟩
  go_wp2_with fail
  refine (H2.out _).mono ?_
  rintro e w1 ⟨rfl, rfl⟩
  go_wp2_with (first | (at_make; refine wpList_make_full _ rfl _ _ 59 rfl w.heap.size 70 i0 (.agg #[.int .i64 0, .int .i64 0, .int .i64 0, .int .i64 0, .int .i64 0]) 5 Tryz.underlying59 hi hz0 hz1 .i64 .i64 16 16 16 rfl rfl rfl rfl (by rw [hz2]; omega) (by unfold maxLen; omega) (Nat.le_refl _) ?_))
  intro w1 hown hgrow
  have hb1 : Below w.heap.size w w1 := (Below.refl _ _).grown hgrow (Nat.le_refl _) (fun k hk => by cases hk)
  have hrow1 : DRow w1 w.heap.size (List.replicate 16 .zero) := by
    rcases hown.2 with ⟨h, _⟩ | ⟨g, cap, cur, hv, hb, hg, _, _, hs, ht⟩
    · cases h
    · obtain ⟨rfl, rfl⟩ : g = w.heap.size ∧ cap = 16 := by injection hv with hv _ hv2; injection hv with hv; injection hv with hv; exact ⟨hv.symm, hv2.symm⟩
      exact ⟨cur, hg, by rw [List.length_replicate, ht]; exact made_flat 16⟩
  have Hb1 := Lib.hid hb1
  have Hrow1 := Lib.hid hrow1
  clear hown hgrow hb1 hrow1
  go_wp2_with fail
  refine (Ho.out _).mono ?_
  rintro e w2 ⟨rfl, hb2⟩
  have hr2 := Hrow1.out.below hb2 Hrow1.out.lt
  obtain ⟨e0, e1, e2, e3, e4⟩ := hr2.cells (rep_at hk)
  have f1 := fun o => hr2.free o
  have Hr3 := Lib.hid (hr2.put k (by simpa using hk) oneD)
  have Hb2 := Lib.hid (Hb1.out.trans (hb2.mono Hb1.out.size))
  clear hr2 hb2 Hrow1 H1 H2 Ho
  go_wp2_with fail
  go_ret
  refine ⟨_, rfl, DSl.mk (by simp) (Nat.le_refl _) (Nat.le_refl _) Hr3.out, ?_⟩
  have := Hb2.out
  go_grown
set_option maxRecDepth 100000 in
set_option maxHeartbeats 800000 in
theorem sbasis_no (n i : Int) (w : World) (h : ¬ (1 ≤ n ∧ n ≤ 4 ∧ 0 ≤ i ∧ i ≤ 2 ^ n.toNat - 1)) :
    Calls Tryz.prog 36 #[.int .i64 n, .int .i64 i] w fun e w' => ∃ v, e = .returned v ∧ DSl w' w.heap.size v [] ∧ Below w.heap.size w w' := by
  by_cases hn : 1 ≤ n ∧ n ≤ 4
  · have H1 := Lib.hid (fun w => lin_any n 1 4 true w (by simp; omega))
    rcases (show (n = 1 ∧ ¬ (0 ≤ i ∧ i ≤ 1)) ∨ (n = 2 ∧ ¬ (0 ≤ i ∧ i ≤ 3)) ∨ (n = 3 ∧ ¬ (0 ≤ i ∧ i ≤ 7)) ∨ (n = 4 ∧ ¬ (0 ≤ i ∧ i ≤ 15)) by
      rcases (show n = 1 ∨ n = 2 ∨ n = 3 ∨ n = 4 by omega) with rfl | rfl | rfl | rfl
      · exact .inl ⟨rfl, fun k => h ⟨by omega, by omega, k.1, k.2⟩⟩
      · exact .inr (.inl ⟨rfl, fun k => h ⟨by omega, by omega, k.1, k.2⟩⟩)
      · exact .inr (.inr (.inl ⟨rfl, fun k => h ⟨by omega, by omega, k.1, k.2⟩⟩))
      · exact .inr (.inr (.inr ⟨rfl, fun k => h ⟨by omega, by omega, k.1, k.2⟩⟩))) with ⟨rfl, hi⟩ | ⟨rfl, hi⟩ | ⟨rfl, hi⟩ | ⟨rfl, hi⟩
    · have H2 := Lib.hid (fun w => lin_any i 0 1 false w (by simpa using hi))
      clear h hi hn
      go_enter Tryz.func36, Tryz.ntmps36
      go_wp2_with fail
      refine (H1.out _).mono ?_
      rintro e w1 ⟨rfl, rfl⟩
      go_wp2_with fail
      refine (H2.out _).mono ?_
      rintro e w1 ⟨rfl, rfl⟩
      go_wp2_with fail
      go_ret
      exact ⟨_, rfl, DSl.nil, by go_grown⟩
    · have H2 := Lib.hid (fun w => lin_any i 0 3 false w (by simpa using hi))
      clear h hi hn
      go_enter Tryz.func36, Tryz.ntmps36
      go_wp2_with fail
      refine (H1.out _).mono ?_
      rintro e w1 ⟨rfl, rfl⟩
      go_wp2_with fail
      refine (H2.out _).mono ?_
      rintro e w1 ⟨rfl, rfl⟩
      go_wp2_with fail
      go_ret
      exact ⟨_, rfl, DSl.nil, by go_grown⟩
    · have H2 := Lib.hid (fun w => lin_any i 0 7 false w (by simpa using hi))
      clear h hi hn
      go_enter Tryz.func36, Tryz.ntmps36
      go_wp2_with fail
      refine (H1.out _).mono ?_
      rintro e w1 ⟨rfl, rfl⟩
      go_wp2_with fail
      refine (H2.out _).mono ?_
      rintro e w1 ⟨rfl, rfl⟩
      go_wp2_with fail
      go_ret
      exact ⟨_, rfl, DSl.nil, by go_grown⟩
    · have H2 := Lib.hid (fun w => lin_any i 0 15 false w (by simpa using hi))
      clear h hi hn
      go_enter Tryz.func36, Tryz.ntmps36
      go_wp2_with fail
      refine (H1.out _).mono ?_
      rintro e w1 ⟨rfl, rfl⟩
      go_wp2_with fail
      refine (H2.out _).mono ?_
      rintro e w1 ⟨rfl, rfl⟩
      go_wp2_with fail
      go_ret
      exact ⟨_, rfl, DSl.nil, by go_grown⟩
  · have H1 := Lib.hid (fun w => lin_any n 1 4 false w (by simpa using hn))
    clear h hn
    go_enter Tryz.func36, Tryz.ntmps36
    go_wp2_with fail
    refine (H1.out _).mono ?_
    rintro e w1 ⟨rfl, rfl⟩
    go_wp2_with fail
    go_ret
    exact ⟨_, rfl, DSl.nil, by go_grown⟩
theorem sbasis (n i : Int) (w : World) :
    Calls Tryz.prog 36 #[.int .i64 n, .int .i64 i] w fun e w' => ∃ v, e = .returned v ∧ DSl w' w.heap.size v (basisL n i) ∧ Below w.heap.size w w' := by
  by_cases h : 1 ≤ n ∧ n ≤ 4 ∧ 0 ≤ i ∧ i ≤ 2 ^ n.toNat - 1
  · rw [show basisL n i = (List.replicate (2 ^ n.toNat) .zero).set i.toNat oneD from if_pos h]
    obtain ⟨h0, h1, h2, h3⟩ := h
    obtain ⟨k, rfl⟩ : ∃ k : Nat, i = k := ⟨i.toNat, by omega⟩
    rcases (show n = 1 ∨ n = 2 ∨ n = 3 ∨ n = 4 by omega) with rfl | rfl | rfl | rfl
    · exact sbasis1 k w (by have : (k : Int) ≤ 1 := h3; omega)
    · exact sbasis2 k w (by have : (k : Int) ≤ 3 := h3; omega)
    · exact sbasis3 k w (by have : (k : Int) ≤ 7 := h3; omega)
    · exact sbasis4 k w (by have : (k : Int) ≤ 15 := h3; omega)
  · rw [show basisL n i = [] from if_neg h]
    exact sbasis_no n i w h
end Go.Proofs.YtlmiebeffdcfhaaGreat
namespace Go.Proofs.YtlmiebeffdcfhaaGreat
open Go.RowKit
namespace Enc
variable {α : Type} (E : Enc α)
/-- A slice whose row lies in the blocks from B up to C. -/
def Sc (w : World) (B C : Nat) (v : Value) (l : List α) : Prop :=
  ∃ a cap, v = .slice a l.length cap ∧ l.length ≤ cap ∧ (0 < l.length → ∃ g, a = some ⟨g, 0, none⟩ ∧ B ≤ g ∧ g < C ∧ E.Row w g l)
variable {E}
theorem Sl.upto {w : World} {B : Nat} {v : Value} {l : List α} (h : E.Sl w B v l) : E.Sc w B w.heap.size v l := by
  obtain ⟨a, cap, h1, h2, h3⟩ := h
  exact ⟨a, cap, h1, h2, fun hl => by obtain ⟨g, e, hB, hr⟩ := h3 hl; exact ⟨g, e, hB, hr.lt, hr⟩⟩
theorem Sc.below {w w' : World} {B C : Nat} {v : Value} {l : List α} (h : E.Sc w B C v l) (hb : Below w.heap.size w w') : E.Sc w' B C v l := by
  obtain ⟨a, cap, h1, h2, h3⟩ := h
  exact ⟨a, cap, h1, h2, fun hl => by obtain ⟨g, e, hB, hC, hr⟩ := h3 hl; exact ⟨g, e, hB, hC, hr.below hb hr.lt⟩⟩
theorem Sc.lo {B C D F : Nat} {w w' : World} {v : Value} {l : List α} (k : E.Sc w D F v l) (h : Mid B C w w') (hE : F ≤ B) : E.Sc w' D F v l := by
  obtain ⟨a, cap, h1, h2, h3⟩ := k
  exact ⟨a, cap, h1, h2, fun hl => by obtain ⟨g, e, hB, hC, hr⟩ := h3 hl; exact ⟨g, e, hB, hC, hr.below h.1 (by omega)⟩⟩
theorem Sc.hi {B C D F : Nat} {w w' : World} {v : Value} {l : List α} (k : E.Sc w D F v l) (h : Mid B C w w') (hD : C ≤ D) : E.Sc w' D F v l := by
  obtain ⟨a, cap, h1, h2, h3⟩ := k
  exact ⟨a, cap, h1, h2, fun hl => by obtain ⟨g, e, hB, hC, hr⟩ := h3 hl; exact ⟨g, e, hB, hC, hr.block (h.2 g (by omega) hr.lt)⟩⟩
/-- The head of a slice. -/
theorem Sl.take {w : World} {B n cap : Nat} {a : Option Addr} {l : List α} (h : E.Sl w B (.slice a n cap) l) (k : Nat) (hk : k ≤ l.length) : E.Sl w B (.slice a k cap) (l.take k) := by
  obtain ⟨a', cap', h1, h2, h3⟩ := h
  injection h1 with e1 e2 e3
  subst e1 e2 e3
  have hl : (l.take k).length = k := by rw [List.length_take]; omega
  exact ⟨_, _, by rw [hl], by rw [hl]; omega, fun h0 => by
    rw [hl] at h0
    obtain ⟨g, e, hB, hr⟩ := h3 (by omega)
    exact ⟨g, e, hB, hr.take k⟩⟩
end Enc
end Go.Proofs.YtlmiebeffdcfhaaGreat
