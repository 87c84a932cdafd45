/- BaseB23: several of our texts in one: GtR GtC GsL GtV AgD. -/
import Derived.Test.YtkcpemkahkkcmaaGreatBaseB07
import Derived.Test.YtkcpemkahkkcmaaGreatBaseB14
import Derived.Test.YtkcpemkahkkcmaaGreatBaseB06
import Derived.Test.YtkcpemkahkkcmaaGreatBaseB18
import Derived.Test.YtkcpemkahkkcmaaGreatGtF
import Derived.Test.YtkcpemkahkkcmaaGreatBaseB08
namespace Go.Proofs.YtkcpemkahkkcmaaGreat
open Go.RowKit
theorem grown_blk {w w' : World} {row : Option Nat} {b : Nat} {o : Obj} (hg : w.grownBy w' row) (h : w.heap[b]? = some o) (hne : some b ≠ row) : w'.heap[b]? = some o := (hg.block b (lt_of_block h) hne).trans h
theorem sl_set1 {α : Type} {E : Enc α} {w : World} {B g off : Nat} {v : Value} {l : List α} {u : Value} (h : E.Sl w B v l) (hg : g < B) : E.Sl (w.setCell ⟨g, off, none⟩ u) B v l :=
  h.block fun k hk _ => Below.heap_setCell _ _ _ _ (by show k ≠ g; omega)
attribute [local irreducible] World.cell?
end Go.Proofs.YtkcpemkahkkcmaaGreat
namespace Go.Proofs.YtkcpemkahkkcmaaGreat
open Go.RowKit
/-- A circuit's box and one of its gates. -/
def GS (w : World) (C g j : Nat) (n : Int) (v : Value) (x : Gt) (w' : World) : Prop :=
  w'.cell? ⟨C, 0, none⟩ = some (.int .i64 n) ∧ w'.cell? ⟨C, 1, none⟩ = some v ∧ w'.cell? ⟨g, j * 4, none⟩ = some (.int .i64 x.k) ∧ w'.cell? ⟨g, j * 4 + 1, none⟩ = some (.int .i64 x.a) ∧ w'.cell? ⟨g, j * 4 + 2, none⟩ = some (.int .i64 x.b) ∧ w'.cell? ⟨g, j * 4 + 3, none⟩ = some (.int .i64 x.c) ∧ C < w'.heap.size ∧ g < w'.heap.size ∧ Below w.heap.size w w'
theorem GS.drew {w w' : World} {C g j : Nat} {n : Int} {v : Value} {x : Gt} (h : GS w C g j n v x w') : GS w C g j n v x w'.drew :=
  let ⟨a0, a1, b0, b1, b2, b3, z, z', l⟩ := h; ⟨a0, a1, b0, b1, b2, b3, z, z', l.drew⟩
theorem GS.below {w w1 w2 : World} {C g j : Nat} {n : Int} {v : Value} {x : Gt} (h : GS w C g j n v x w1) (hb : Below w1.heap.size w1 w2) : GS w C g j n v x w2 :=
  let ⟨a0, a1, b0, b1, b2, b3, z, z', l⟩ := h
  ⟨cell_below a0 hb z, cell_below a1 hb z, cell_below b0 hb z', cell_below b1 hb z', cell_below b2 hb z', cell_below b3 hb z', Nat.lt_of_lt_of_le z hb.size, Nat.lt_of_lt_of_le z' hb.size, below_up l hb l.size⟩
theorem GRow.cells {w : World} {g : Nat} {l : List Gt} (h : gtE.Row w g l) {j : Nat} {x : Gt} (hx : l[j]? = some x) :
    w.cell? ⟨g, j * 4, none⟩ = some (.int .i64 x.k) ∧ w.cell? ⟨g, j * 4 + 1, none⟩ = some (.int .i64 x.a) ∧ w.cell? ⟨g, j * 4 + 2, none⟩ = some (.int .i64 x.b) ∧ w.cell? ⟨g, j * 4 + 3, none⟩ = some (.int .i64 x.c) :=
  ⟨h.at hx (k := 0) rfl, h.at hx (k := 1) rfl, h.at hx (k := 2) rfl, h.at hx (k := 3) rfl⟩
attribute [local irreducible] World.cell?
end Go.Proofs.YtkcpemkahkkcmaaGreat
namespace Go.Proofs.YtkcpemkahkkcmaaGreat
open Go.RowKit
/-- A slice of the laws' gates that came in. -/
def GsIn (w : World) (B : Nat) (a0 : Option Addr) (l : List Gt) : Prop :=
  l.length ≤ maxLen ∧
  (0 < l.length → ∃ b off, a0 = some ⟨b, off, none⟩ ∧ b < B ∧ ∀ j x, l[j]? = some x → w.cell? ⟨b, off + j * 4, none⟩ = some (.int .i64 x.k) ∧ w.cell? ⟨b, off + j * 4 + 1, none⟩ = some (.int .i64 x.a) ∧ w.cell? ⟨b, off + j * 4 + 2, none⟩ = some (.int .i64 x.b) ∧ w.cell? ⟨b, off + j * 4 + 3, none⟩ = some (.int .i64 x.c))
theorem GsIn.below {w w' : World} {B : Nat} {a0 : Option Addr} {l : List Gt} (h : GsIn w B a0 l) (hb : Below B w w') : GsIn w' B a0 l :=
  ⟨h.1, fun h0 => by
    obtain ⟨b, off, e, hlt, hc⟩ := h.2 h0
    refine ⟨b, off, e, hlt, fun j x hx => ?_⟩
    obtain ⟨c0, c1, c2, c3⟩ := hc j x hx
    exact ⟨(hb.cell (by exact hlt)).trans c0, (hb.cell (by exact hlt)).trans c1, (hb.cell (by exact hlt)).trans c2, (hb.cell (by exact hlt)).trans c3⟩⟩
theorem GsIn.mono {w : World} {B C : Nat} {a0 : Option Addr} {l : List Gt} (h : GsIn w B a0 l) (hC : B ≤ C) : GsIn w C a0 l :=
  ⟨h.1, fun h0 => by obtain ⟨b, off, e, hlt, hc⟩ := h.2 h0; exact ⟨b, off, e, by omega, hc⟩⟩
/-- A part of such a slice. -/
theorem GsIn.drop {w : World} {B g off : Nat} {l : List Gt} (h : GsIn w B (some ⟨g, off, none⟩) l) (k : Nat) : GsIn w B (some ⟨g, off + k * 4, none⟩) (l.drop k) := by
  refine ⟨Nat.le_trans (by rw [List.length_drop]; omega) h.1, fun h0 => ?_⟩
  rw [List.length_drop] at h0
  obtain ⟨b, o, e, hb, hc⟩ := h.2 (by omega)
  injection e with e
  injection e with e1 e2
  subst e1 e2
  refine ⟨_, _, rfl, hb, fun j x hx => ?_⟩
  rw [List.getElem?_drop] at hx
  have := hc (k + j) x hx
  rwa [show off + (k + j) * 4 = off + k * 4 + j * 4 by rw [Nat.add_mul]; omega] at this
/-- A gate written into a row, cell by cell. -/
theorem GRow.put {w : World} {g : Nat} {l : List Gt} (h : gtE.Row w g l) {j : Nat} (hj : j < l.length) (x : Gt) :
    gtE.Row ((((w.setCell ⟨g, j * 4, none⟩ (.int .i64 x.k)).setCell ⟨g, j * 4 + 1, none⟩ (.int .i64 x.a)).setCell ⟨g, j * 4 + 2, none⟩ (.int .i64 x.b)).setCell ⟨g, j * 4 + 3, none⟩ (.int .i64 x.c)) g (l.set j x) := by
  obtain ⟨y, hy⟩ : ∃ y, l[j]? = some y := ⟨l[j], List.getElem?_eq_getElem hj⟩
  have h1 := h.put1 (o := 0) (v := .int .i64 x.k) (y := ⟨x.k, y.a, y.b, y.c⟩) hy (by decide) rfl
  have h2 := h1.put1 (j := j) (o := 1) (v := .int .i64 x.a) (x := ⟨x.k, y.a, y.b, y.c⟩) (y := ⟨x.k, x.a, y.b, y.c⟩) (by rw [List.getElem?_set_self hj]) (by decide) rfl
  rw [List.set_set] at h2
  have h3 := h2.put1 (j := j) (o := 2) (v := .int .i64 x.b) (x := ⟨x.k, x.a, y.b, y.c⟩) (y := ⟨x.k, x.a, x.b, y.c⟩) (by rw [List.getElem?_set_self hj]) (by decide) rfl
  rw [List.set_set] at h3
  have h4 := h3.put1 (j := j) (o := 3) (v := .int .i64 x.c) (x := ⟨x.k, x.a, x.b, y.c⟩) (y := x) (by rw [List.getElem?_set_self hj]) (by decide) rfl
  rw [List.set_set] at h4
  exact h4
/-- Two gates of rows beside each other. -/
def E2G (w : World) (g g' o : Nat) (x y : Gt) (w' : World) : Prop :=
  w'.cell? ⟨g, o, none⟩ = some (.int .i64 x.k) ∧ w'.cell? ⟨g, o + 1, none⟩ = some (.int .i64 x.a) ∧ w'.cell? ⟨g, o + 2, none⟩ = some (.int .i64 x.b) ∧ w'.cell? ⟨g, o + 3, none⟩ = some (.int .i64 x.c) ∧
  w'.cell? ⟨g', o, none⟩ = some (.int .i64 y.k) ∧ w'.cell? ⟨g', o + 1, none⟩ = some (.int .i64 y.a) ∧ w'.cell? ⟨g', o + 2, none⟩ = some (.int .i64 y.b) ∧ w'.cell? ⟨g', o + 3, none⟩ = some (.int .i64 y.c) ∧ g < w'.heap.size ∧ g' < w'.heap.size ∧ Below w.heap.size w w'
theorem E2G.drew {w w' : World} {g g' o : Nat} {x y : Gt} (h : E2G w g g' o x y w') : E2G w g g' o x y w'.drew :=
  let ⟨a0, a1, a2, a3, b0, b1, b2, b3, z, z', l⟩ := h; ⟨a0, a1, a2, a3, b0, b1, b2, b3, z, z', l.drew⟩
theorem E2G.below {w w1 w2 : World} {g g' o : Nat} {x y : Gt} (h : E2G w g g' o x y w1) (hb : Below w1.heap.size w1 w2) : E2G w g g' o x y w2 :=
  let ⟨a0, a1, a2, a3, b0, b1, b2, b3, z, z', l⟩ := h
  ⟨cell_below a0 hb z, cell_below a1 hb z, cell_below a2 hb z, cell_below a3 hb z, cell_below b0 hb z', cell_below b1 hb z', cell_below b2 hb z', cell_below b3 hb z', Nat.lt_of_lt_of_le z hb.size, Nat.lt_of_lt_of_le z' hb.size, below_up l hb l.size⟩
theorem E2G.low {w w' : World} {g g' o : Nat} {x y : Gt} (h : E2G w g g' o x y w') : Below w.heap.size w w' := let ⟨_, _, _, _, _, _, _, _, _, _, l⟩ := h; l
attribute [local irreducible] World.cell?
end Go.Proofs.YtkcpemkahkkcmaaGreat
namespace Go.Proofs.YtkcpemkahkkcmaaGreat
open Go.RowKit
attribute [local irreducible] World.cell?
end Go.Proofs.YtkcpemkahkkcmaaGreat
namespace Go.Proofs.YtkcpemkahkkcmaaGreat
open Go.RowKit
theorem dsl_set1 {w : World} {B g off : Nat} {v : Value} {l : List Dw} {u : Value} (h : DSl w B v l) (hg : g < B) : DSl (w.setCell ⟨g, off, none⟩ u) B v l :=
  h.block fun k hk _ => Below.heap_setCell _ _ _ _ (by show k ≠ g; omega)
attribute [local irreducible] World.cell?
set_option maxRecDepth 100000 in
set_option maxHeartbeats 6400000 in
theorem drawAg (a0 : Option Addr) (len cap : Nat) (w : World) (hcode : CodeAt w w.heap.size a0 len) :
    Calls Tryz.prog 5 #[.slice a0 len cap] w fun e w' => (∃ g v l, e = .returned (.tuple #[(.agg #[.int .i64 g.k, .int .i64 g.a, .int .i64 g.b, .int .i64 g.c]), v]) ∧ GtI g ∧ List.length l ≤ 8 ∧ Eb l ∧ DSl w' w.heap.size v l) ∧ Below w.heap.size w w' := by
  have Hcode := Lib.hid (show CodeAt (w.alloc (.cells #[.int .i64 0, .int .i64 0, .int .i64 0, .int .i64 0] 25)) (w.alloc (.cells #[.int .i64 0, .int .i64 0, .int .i64 0, .int .i64 0] 25)).heap.size a0 len from (hcode.below ((Below.refl _ _).alloc (Nat.le_refl _) (.cells #[.int .i64 0, .int .i64 0, .int .i64 0, .int .i64 0] 25))).mono (by simp))
  have Hr0 := Lib.hid (heap_alloc_new w (.cells #[.int .i64 0, .int .i64 0, .int .i64 0, .int .i64 0] 25))
  clear hcode
  go_enter Tryz.func5, Tryz.ntmps5
  go_wp2_with fail
  refine (new_any a0 len cap _ Hcode.out).mono ?_
  rintro e w1 ⟨rfl, hc1, hb1, hz1⟩
  have hz0 : (w.alloc (.cells #[.int .i64 0, .int .i64 0, .int .i64 0, .int .i64 0] 25)).heap.size = w.heap.size + 1 := by simp
  rw [hz0] at hc1 hz1
  have Hr1 := Lib.hid (below_blk hb1 (lt_of_block Hr0.out) Hr0.out)
  have Hc1 := Lib.hid hc1
  have Hb1 := Lib.hid (below_up (B := w.heap.size) (w := w) (by go_grown) hb1 (by simp))
  have hs1 := hb1.size
  rw [hz0] at hs1
  clear hc1 hb1
  go_wp2_with fail
  refine (below_any (w.heap.size + 1) 3 _ Hc1.out (by omega) (by omega)).mono ?_
  rintro e w2 ⟨⟨x, x0, x1, rfl⟩, hc2, ho2⟩
  obtain ⟨k, rfl⟩ : ∃ k : Nat, x = k := ⟨x.toNat, by omega⟩
  have hs2 := ho2.size
  have Hr2 := Lib.hid (own_blk ho2 (by omega) Hr1.out)
  have Hc2 := Lib.hid hc2
  have Hb2 := Lib.hid (below_own Hb1.out ho2 (by omega) (by omega))
  clear hc2 ho2 Hc1 Hb1 Hr1
  go_wp2_with fail
  refine (vec_any (w.heap.size + 1) (1 + k) _ Hc2.out (by omega) (by omega) (by omega)).mono ?_
  rintro e w3 ⟨⟨v, l, rfl, -, hl8, he, hd⟩, hc3, ho3⟩
  have hs3 := ho3.size
  have Hd := Lib.hid (hd.mono (C := w2.heap.size) (Nat.le_refl _))
  have Hr3 := Lib.hid (own_blk ho3 (by omega) Hr2.out)
  have Hc3 := Lib.hid hc3
  have Hb3 := Lib.hid (below_own Hb2.out ho3 (by omega) (by omega))
  clear hc3 ho3 Hc2 Hb2 Hr2 hd
  go_wp2_with fail
  refine (once_any (w.heap.size + 1) 6 _ Hc3.out (by omega) (by omega)).mono ?_
  rintro e w4 ⟨⟨t, rfl⟩, hc4, ho4⟩
  have hs4 := ho4.size
  have Hd4 := Lib.hid (Hd.out.own ho4 (by omega))
  have Hr4 := Lib.hid (own_blk ho4 (by omega) Hr3.out)
  have Hc4 := Lib.hid hc4
  have Hb4 := Lib.hid (below_own Hb3.out ho4 (by omega) (by omega))
  clear hc4 ho4 Hc3 Hb3 Hr3 Hd
  cases t with
  | false =>
    have HG := bentG (w.heap.size + 1) (1 + k) w4 Hc4.out (by omega) (by omega) (by omega)
    rw [show ((1 + k : Nat) : Int) = 1 + (k : Int) by simp] at HG
    have HG := Lib.hid HG
    go_wp2_with fail
    refine HG.out.mono ?_
    rintro e w5 ⟨⟨g, rfl, hgi⟩, hc5, ho5⟩
    have hs5 := ho5.size
    have Hd5 := Lib.hid (Hd4.out.own ho5 (by omega))
    have Hr5 := Lib.hid (own_blk ho5 (by omega) Hr4.out)
    have Hb5 := Lib.hid (below_own Hb4.out ho5 (by omega) (by omega))
    clear hc5 ho5 Hc4 Hb4 Hr4 Hd4 HG
    obtain ⟨r0, r1, r2, r3⟩ := blk_cells Hr5.out
    have fR := fun o => free_at Hr5.out o
    have hrl := lt_of_block Hr5.out
    go_wp2_with fail
    obtain ⟨k0, k1, k2, k3⟩ := blk_cells (set4_at (u0 := .int .i64 g.k) (u1 := .int .i64 g.a) (u2 := .int .i64 g.b) (u3 := .int .i64 g.c) Hr5.out)
    refine bodyPost_ret (v := .tuple #[(.agg #[.int .i64 g.k, .int .i64 g.a, .int .i64 g.b, .int .i64 g.c]), v]) (by simp only [results, Tryz.results5]; simp [go_sem, k0, k1, k2, k3]) rfl ⟨⟨g, v, l, rfl, hgi, hl8, he, ?_⟩, ?_⟩
    · exact (dsl_set1 (dsl_set1 (dsl_set1 (dsl_set1 Hd5.out (by omega)) (by omega)) (by omega)) (by omega)).mono (by omega)
    · have := Hb5.out
      go_grown
  | true =>
    go_wp2_with fail
    refine (bentS (w.heap.size + 1) _ Hc4.out (by omega)).mono ?_
    rintro e w5 ⟨⟨v2, l2, rfl, hl2, he2, hd2⟩, hc5, ho5⟩
    have hs5 := ho5.size
    have Hd5 := Lib.hid (hd2.mono (C := w4.heap.size) (Nat.le_refl _))
    have Hr5 := Lib.hid (own_blk ho5 (by omega) Hr4.out)
    have Hc5 := Lib.hid hc5
    have Hb5 := Lib.hid (below_own Hb4.out ho5 (by omega) (by omega))
    clear hc5 ho5 Hc4 Hb4 Hr4 Hd4 hd2
    have HG := bentG (w.heap.size + 1) (1 + k) w5 Hc5.out (by omega) (by omega) (by omega)
    rw [show ((1 + k : Nat) : Int) = 1 + (k : Int) by simp] at HG
    have HG := Lib.hid HG
    go_wp2_with fail
    refine HG.out.mono ?_
    rintro e w6 ⟨⟨g, rfl, hgi⟩, hc6, ho6⟩
    have hs6 := ho6.size
    have Hd6 := Lib.hid (Hd5.out.own ho6 (by omega))
    have Hr6 := Lib.hid (own_blk ho6 (by omega) Hr5.out)
    have Hb6 := Lib.hid (below_own Hb5.out ho6 (by omega) (by omega))
    clear hc6 ho6 Hc5 Hb5 Hr5 Hd5 HG
    obtain ⟨r0, r1, r2, r3⟩ := blk_cells Hr6.out
    have fR := fun o => free_at Hr6.out o
    have hrl := lt_of_block Hr6.out
    go_wp2_with fail
    obtain ⟨k0, k1, k2, k3⟩ := blk_cells (set4_at (u0 := .int .i64 g.k) (u1 := .int .i64 g.a) (u2 := .int .i64 g.b) (u3 := .int .i64 g.c) Hr6.out)
    refine bodyPost_ret (v := .tuple #[(.agg #[.int .i64 g.k, .int .i64 g.a, .int .i64 g.b, .int .i64 g.c]), v2]) (by simp only [results, Tryz.results5]; simp [go_sem, k0, k1, k2, k3]) rfl ⟨⟨g, v2, l2, rfl, hgi, hl2, he2, ?_⟩, ?_⟩
    · exact (dsl_set1 (dsl_set1 (dsl_set1 (dsl_set1 Hd6.out (by omega)) (by omega)) (by omega)) (by omega)).mono (by omega)
    · have := Hb6.out
      go_grown
end Go.Proofs.YtkcpemkahkkcmaaGreat
