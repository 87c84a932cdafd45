/- BaseB15: several of our texts in one: DwE ZwDraw ZwDraw2 DwV DwO ZwDraw3 At0. -/
import Derived.Test.YtfmgjhaofbdlpaaDwM2
import Derived.Test.YtfmgjhaofbdlpaaRows
import Derived.Laws.StructEq
import Derived.Test.YtfmgjhaofbdlpaaBaseB01
import Derived.Test.YtfmgjhaofbdlpaaZwB
import Derived.Test.YtfmgjhaofbdlpaaZwS
import Derived.Test.YtfmgjhaofbdlpaaBaseB03
import Derived.Lib.SmallJoins
import Derived.OpenShut
namespace Go.Proofs.Ytfmgjhaofbdlpaa
open Go.RowKit
theorem dw_ext {x y : Dw} (h0 : x.n.a = y.n.a) (h1 : x.n.b = y.n.b) (h2 : x.n.c = y.n.c) (h3 : x.n.d = y.n.d) (h4 : x.e = y.e) : x = y := by
  obtain ⟨⟨a, b, c, d⟩, e⟩ := x
  obtain ⟨⟨p, q, r, s⟩, t⟩ := y
  simp only [] at h0 h1 h2 h3 h4
  subst h0 h1 h2 h3 h4
  rfl
/-- Two fractions are the same, field by field. -/
def eqDB (x y : Dw) : Bool := x.n.a == y.n.a && (x.n.b == y.n.b && (x.n.c == y.n.c && (x.n.d == y.n.d && x.e == y.e)))
theorem eqDB_iff {x y : Dw} : eqDB x y = true ↔ x = y := by
  simp only [eqDB, Bool.and_eq_true, beq_iff_eq]
  exact ⟨fun ⟨h0, h1, h2, h3, h4⟩ => dw_ext h0 h1 h2 h3 h4, fun h => by subst h; exact ⟨rfl, rfl, rfl, rfl, rfl⟩⟩
theorem eqDB_self (x : Dw) : eqDB x x = true := eqDB_iff.2 rfl
theorem eqDB_no {x y : Dw} (h : x ≠ y) : eqDB x y = false := by
  rw [Bool.eq_false_iff]; exact fun k => h (eqDB_iff.1 k)
theorem ite5 (p q r s t : Prop) [Decidable p] [Decidable q] [Decidable r] [Decidable s] [Decidable t] (w : World) :
    (if p then if q then if r then if s then if t then Result.ok (Value.bool true) w else Result.ok (Value.bool false) w else Result.ok (Value.bool false) w else Result.ok (Value.bool false) w else Result.ok (Value.bool false) w else Result.ok (Value.bool false) w) =
    Result.ok (Value.bool (decide p && (decide q && (decide r && (decide s && decide t))))) w := by
  by_cases p <;> by_cases q <;> by_cases r <;> by_cases s <;> by_cases t <;> simp [*]
set_option maxRecDepth 100000 in
set_option maxHeartbeats 1600000 in
theorem eqD (x y : Dw) (w : World) : (binOp .eql 63 (.agg #[.int .i64 x.n.a, .int .i64 x.n.b, .int .i64 x.n.c, .int .i64 x.n.d, .int .i64 x.e]) (.agg #[.int .i64 y.n.a, .int .i64 y.n.b, .int .i64 y.n.c, .int .i64 y.n.d, .int .i64 y.e])).run Try.prog w = .ok (.bool (eqDB x y)) w := by
  rw [run_eql_struct, run_equalIn_struct _ 9999 _ _ _ (by kernel_rfl) (by kernel_rfl)]
  simp [go_sem]
  rw [ite5]
  rfl
set_option maxRecDepth 100000 in
set_option maxHeartbeats 1600000 in
theorem neD (x y : Dw) (w : World) : (binOp .neq 63 (.agg #[.int .i64 x.n.a, .int .i64 x.n.b, .int .i64 x.n.c, .int .i64 x.n.d, .int .i64 x.e]) (.agg #[.int .i64 y.n.a, .int .i64 y.n.b, .int .i64 y.n.c, .int .i64 y.n.d, .int .i64 y.e])).run Try.prog w = .ok (.bool (!eqDB x y)) w := by
  rw [run_neq_struct]
  have h := eqD x y w
  rw [run_eql_struct] at h
  generalize (Op.equalIn 10000 63 (.agg #[.int .i64 x.n.a, .int .i64 x.n.b, .int .i64 x.n.c, .int .i64 x.n.d, .int .i64 x.e]) (.agg #[.int .i64 y.n.a, .int .i64 y.n.b, .int .i64 y.n.c, .int .i64 y.n.d, .int .i64 y.e])).run Try.prog w = r at *
  cases r with
  | ok b w1 => simp only [Result.andThen_ok, Result.ok.injEq, Value.bool.injEq] at h ⊢; exact ⟨by rw [h.1], h.2⟩
  | halt a w1 => simp [Result.andThen] at h
end Go.Proofs.Ytfmgjhaofbdlpaa
namespace Go.Proofs.Ytfmgjhaofbdlpaa
open Go.RowKit
attribute [local irreducible] World.cell?
/-- What a call leaves that writes into block B alone and makes memory: cells, marks and blocks of before. -/
theorem ogrow {B : Nat} {W w1 : World} (h : Own B W w1) : (∀ b o, b < W.heap.size → b ≠ B → w1.cell? ⟨b, o, none⟩ = W.cell? ⟨b, o, none⟩) ∧ (∀ b o, b < W.heap.size → b ≠ B → w1.frozen? ⟨b, o, none⟩ = W.frozen? ⟨b, o, none⟩) ∧ (∀ b, b < W.heap.size → b < w1.heap.size) := by
  refine ⟨fun b o hb hn => ?_, fun b o hb hn => ?_, fun b hb => Nat.lt_of_lt_of_le hb h.size⟩
  · exact World.cell?_of_block (w := W) (h.block b hb (by intro e; injection e with e; exact hn e))
  · have := h.block b hb (by intro e; injection e with e; exact hn e)
    simp only [World.frozen?, this]
theorem own_far {B : Nat} {a w : World} (h : Own B a w) {p : Addr} (hp : a.heap.size ≤ p.block) (u : Value) : Own B a (w.setCell p u) :=
  ⟨h.os, h.tape, h.output, by simpa [World.setCell] using h.size, fun k hk hn => (Below.heap_setCell _ _ _ _ (by omega)).trans (h.block k hk hn)⟩
theorem own_far4 {B g : Nat} {a w : World} {u0 u1 u2 u3 : Value} (h : Own B a w) (hp : a.heap.size ≤ g) : Own B a ((((w.setCell ⟨g, 0, none⟩ u0).setCell ⟨g, 1, none⟩ u1).setCell ⟨g, 2, none⟩ u2).setCell ⟨g, 3, none⟩ u3) :=
  own_far (own_far (own_far (own_far h (p := ⟨g, 0, none⟩) hp _) (p := ⟨g, 1, none⟩) hp _) (p := ⟨g, 2, none⟩) hp _) (p := ⟨g, 3, none⟩) hp _
theorem CurAt.far4 {B g : Nat} {w : World} {u0 u1 u2 u3 : Value} (h : CurAt w B) (hB : B < g) : CurAt ((((w.setCell ⟨g, 0, none⟩ u0).setCell ⟨g, 1, none⟩ u1).setCell ⟨g, 2, none⟩ u2).setCell ⟨g, 3, none⟩ u3) B :=
  h.own (own_set (own_set (own_set (own_set (own_refl g w) 0 u0) 1 u1) 2 u2) 3 u3) hB
theorem own_blk {B g : Nat} {W w1 : World} {o : Obj} (h : Own B W w1) (hn : g ≠ B) (hk : W.heap[g]? = some o) : w1.heap[g]? = some o := by
  rw [h.block g (lt_of_block hk) (by intro e; injection e with e; exact hn e)]; exact hk
theorem alloc_blk {g : Nat} {W : World} {o : Obj} (p : Obj) (hk : W.heap[g]? = some o) : (W.alloc p).heap[g]? = some o := by
  rw [Below.heap_alloc _ _ _ (lt_of_block hk)]; exact hk
theorem set4_cells {g : Nat} {W : World} {t : TypeId} {z0 z1 z2 z3 u0 u1 u2 u3 : Value} (h : W.heap[g]? = some (.cells #[z0, z1, z2, z3] t (0, 0))) :
    ((((W.setCell ⟨g, 0, none⟩ u0).setCell ⟨g, 1, none⟩ u1).setCell ⟨g, 2, none⟩ u2).setCell ⟨g, 3, none⟩ u3).cell? ⟨g, 0, none⟩ = some u0 ∧
    ((((W.setCell ⟨g, 0, none⟩ u0).setCell ⟨g, 1, none⟩ u1).setCell ⟨g, 2, none⟩ u2).setCell ⟨g, 3, none⟩ u3).cell? ⟨g, 1, none⟩ = some u1 ∧
    ((((W.setCell ⟨g, 0, none⟩ u0).setCell ⟨g, 1, none⟩ u1).setCell ⟨g, 2, none⟩ u2).setCell ⟨g, 3, none⟩ u3).cell? ⟨g, 2, none⟩ = some u2 ∧
    ((((W.setCell ⟨g, 0, none⟩ u0).setCell ⟨g, 1, none⟩ u1).setCell ⟨g, 2, none⟩ u2).setCell ⟨g, 3, none⟩ u3).cell? ⟨g, 3, none⟩ = some u3 := by
  have h4 := heap_set (heap_set (heap_set (heap_set h 0 u0) 1 u1) 2 u2) 3 u3
  exact ⟨cell_at h4 0 _ rfl, cell_at h4 1 _ rfl, cell_at h4 2 _ rfl, cell_at h4 3 _ rfl⟩
/-- An element is returned. -/
def ZRet (e : Ending) : Prop := ∃ x : Zw, e = .returned (.agg #[.int .i64 x.a, .int .i64 x.b, .int .i64 x.c, .int .i64 x.d])
theorem zret (a b c d : Int) : ZRet (.returned (.agg #[.int .i64 a, .int .i64 b, .int .i64 c, .int .i64 d])) := ⟨⟨a, b, c, d⟩, rfl⟩
def Z2Ret (e : Ending) : Prop := ∃ x y : Zw, e = .returned (.tuple #[(.agg #[.int .i64 x.a, .int .i64 x.b, .int .i64 x.c, .int .i64 x.d]), (.agg #[.int .i64 y.a, .int .i64 y.b, .int .i64 y.c, .int .i64 y.d])])
/-- The cells of a block read as a list. -/
theorem zlist_at {w : World} {b : Nat} {cs : Array Value} {t : TypeId} (h : w.heap[b]? = some (.cells cs t (0, 0))) (n : Nat) (f : Nat → Value) (hf : ∀ j, j < n → cs[j]? = some (f j)) : ListAt w b n f := fun j hj => cell_at h j _ (hf j hj)
/-- The lists of l2Zw. -/
def zlist1 : List Int := [0, 1, -1, 1073741824, -1073741824, 1073741825, 32768, 9223372036854775807, -9223372036854775808]
def zlist2 : List Int := [0, 1, 1073741824, 32768]
end Go.Proofs.Ytfmgjhaofbdlpaa
namespace Go.Proofs.Ytfmgjhaofbdlpaa
open Go.RowKit
attribute [local irreducible] World.cell?
theorem below_blk {B g : Nat} {W w1 : World} {o : Obj} (h : Below B W w1) (hg : g < B) (hk : W.heap[g]? = some o) : w1.heap[g]? = some o := by
  rw [h.block g hg]; exact hk
theorem set4_blk {g b : Nat} {W : World} {o : Obj} {u0 u1 u2 u3 : Value} (hn : b ≠ g) (h : W.heap[b]? = some o) :
    ((((W.setCell ⟨g, 0, none⟩ u0).setCell ⟨g, 1, none⟩ u1).setCell ⟨g, 2, none⟩ u2).setCell ⟨g, 3, none⟩ u3).heap[b]? = some o := by
  rw [Below.heap_setCell _ _ _ _ (by simpa using hn), Below.heap_setCell _ _ _ _ (by simpa using hn), Below.heap_setCell _ _ _ _ (by simpa using hn), Below.heap_setCell _ _ _ _ (by simpa using hn)]
  exact h
theorem set4_at {g : Nat} {W : World} {t : TypeId} {z0 z1 z2 z3 u0 u1 u2 u3 : Value} (h : W.heap[g]? = some (.cells #[z0, z1, z2, z3] t (0, 0))) :
    ((((W.setCell ⟨g, 0, none⟩ u0).setCell ⟨g, 1, none⟩ u1).setCell ⟨g, 2, none⟩ u2).setCell ⟨g, 3, none⟩ u3).heap[g]? = some (.cells #[u0, u1, u2, u3] t (0, 0)) :=
  heap_set (heap_set (heap_set (heap_set h 0 u0) 1 u1) 2 u2) 3 u3
theorem blk_cells {g : Nat} {W : World} {t : TypeId} {z0 z1 z2 z3 : Value} (h : W.heap[g]? = some (.cells #[z0, z1, z2, z3] t (0, 0))) :
    W.cell? ⟨g, 0, none⟩ = some z0 ∧ W.cell? ⟨g, 1, none⟩ = some z1 ∧ W.cell? ⟨g, 2, none⟩ = some z2 ∧ W.cell? ⟨g, 3, none⟩ = some z3 :=
  ⟨cell_at h 0 _ rfl, cell_at h 1 _ rfl, cell_at h 2 _ rfl, cell_at h 3 _ rfl⟩
theorem z2ret (a b c d p q r s : Int) : Z2Ret (.returned (.tuple #[.agg #[.int .i64 a, .int .i64 b, .int .i64 c, .int .i64 d], .agg #[.int .i64 p, .int .i64 q, .int .i64 r, .int .i64 s]])) := ⟨⟨a, b, c, d⟩, ⟨p, q, r, s⟩, rfl⟩
theorem size2 (w : World) (p q : Obj) : ((w.alloc p).alloc q).heap.size = w.heap.size + 1 + 1 := by simp
end Go.Proofs.Ytfmgjhaofbdlpaa
namespace Go.Proofs.Ytfmgjhaofbdlpaa
open Go.RowKit
attribute [local irreducible] World.cell?
set_option maxRecDepth 100000 in
set_option maxHeartbeats 3200000 in
theorem icancel (x : Zw) (k0 : Nat) (hk : k0 ≤ 120) (w : World) :
    Calls Try.prog 104 #[(.agg #[.int .i64 x.a, .int .i64 x.b, .int .i64 x.c, .int .i64 x.d]), .int .i64 k0] w fun e w' => e = .returned (.tuple #[(.agg #[.int .i64 ((red k0 x).1).a, .int .i64 ((red k0 x).1).b, .int .i64 ((red k0 x).1).c, .int .i64 ((red k0 x).1).d]), .int .i64 (red k0 x).2]) ∧ Below w.heap.size w w' := by
  have Hr0 := Lib.hid (alloc_blk (.cells #[.int .i64 0, .int .i64 0, .int .i64 0, .int .i64 0] 61) (heap_alloc_new w (.cells #[.int .i64 x.a, .int .i64 x.b, .int .i64 x.c, .int .i64 x.d] 61)))
  have Hr1 := Lib.hid (heap_alloc_new (w.alloc (.cells #[.int .i64 x.a, .int .i64 x.b, .int .i64 x.c, .int .i64 x.d] 61)) (.cells #[.int .i64 0, .int .i64 0, .int .i64 0, .int .i64 0] 61))
  go_enter Try.func104, Try.ntmps104
  go_wp2_with fail
  go_loopw [1] (fun s1 wr => ∃ (n : Zw) (k : Nat), s1 = .int .i64 k ∧ k ≤ k0 ∧ red k n = red k0 x ∧ wr.heap[w.heap.size]? = some (.cells #[.int .i64 n.a, .int .i64 n.b, .int .i64 n.c, .int .i64 n.d] 61 (0, 0)) ∧ wr.heap[w.heap.size + 1]? = some (.cells #[.int .i64 0, .int .i64 0, .int .i64 0, .int .i64 0] 61 (0, 0)) ∧ Below w.heap.size w wr) (fun s1 _ => (intOf s1).toNat)
  case atStart => exact ⟨x, k0, rfl, Nat.le_refl _, rfl, Hr0.out, by simpa using Hr1.out, by go_grown⟩
  case round =>
    obtain ⟨n, k, rfl, hkk, hred, hb0, hb1, hbl⟩ := hrel
    have zg0 := lt_of_block hb0
    have zg1 := lt_of_block hb1
    obtain ⟨c0, c1, c2, c3⟩ := blk_cells hb0
    have f0 := fun o => free_at hb0 o
    obtain ⟨d0, d1, d2, d3⟩ := blk_cells hb1
    have f1 := fun o => free_at hb1 o
    have Hb0 := Lib.hid hb0
    have Hb1 := Lib.hid hb1
    have Hbl := Lib.hid hbl
    have Hred := Lib.hid hred
    clear hb0 hb1 hbl hred
    cases k with
    | zero =>
      go_wp2_with fail
      obtain ⟨k0, k1, k2, k3⟩ := blk_cells (set4_at (u0 := .int .i64 n.a) (u1 := .int .i64 n.b) (u2 := .int .i64 n.c) (u3 := .int .i64 n.d) Hb1.out)
      refine bodyPost_ret (v := .tuple #[(.agg #[.int .i64 n.a, .int .i64 n.b, .int .i64 n.c, .int .i64 n.d]), .int .i64 0]) (by simp only [results, Try.results104]; simp [go_sem, k0, k1, k2, k3]) rfl ⟨by rw [← Hred.out]; rfl, ?_⟩
      have := Hbl.out
      go_grown
    | succ k =>
      have Hi := Lib.hid (idiv_any n)
      have Hy := Lib.hid (show divB n = true → red (k + 1) n = red k (divV n) from fun h => by rw [red, if_pos h])
      have Hn := Lib.hid (show divB n = false → red (k + 1) n = (n, k + 1) from fun h => by rw [red, if_neg (by simp [h])])
      generalize divV n = q at *
      generalize divB n = t at *
      go_wp2_with fail
      refine (Hi.out _).mono ?_
      rintro e w1 ⟨rfl, hb⟩
      have hs1 := hb.size
      obtain ⟨hc1, hf1, hz1⟩ := bgrow hb
      have zg10 := hz1 _ zg0
      have zg11 := hz1 _ zg1
      have Hb01 := Lib.hid (below_blk hb zg0 Hb0.out)
      have Hb11 := Lib.hid (below_blk hb zg1 Hb1.out)
      have Hbl1 := Lib.hid (below_nx Hbl.out hb)
      clear hb
      cases t
      · have hn := Hn.out rfl
        go_wp2_with fail
        obtain ⟨k0, k1, k2, k3⟩ := blk_cells (alloc_blk (.cells #[.int .i64 q.a, .int .i64 q.b, .int .i64 q.c, .int .i64 q.d] 61) (set4_at (u0 := .int .i64 n.a) (u1 := .int .i64 n.b) (u2 := .int .i64 n.c) (u3 := .int .i64 n.d) Hb11.out))
        refine bodyPost_ret (v := .tuple #[(.agg #[.int .i64 n.a, .int .i64 n.b, .int .i64 n.c, .int .i64 n.d]), .int .i64 ((k + 1 : Nat) : Int)]) (by simp only [results, Try.results104]; simp [go_sem, k0, k1, k2, k3]) rfl ⟨by rw [← Hred.out, hn], ?_⟩
        have := Hbl1.out
        go_grown
      · have hn := Hy.out rfl
        go_wp2_with fail
        go_roundw
        case rel => exact ⟨q, k, by go_num, by omega, by rw [← hn]; exact Hred.out, alloc_blk _ (set4_at Hb01.out), alloc_blk _ (set4_blk (by omega) Hb11.out), by have := Hbl1.out; go_grown⟩
        case measure => simp [intOf]
end Go.Proofs.Ytfmgjhaofbdlpaa
namespace Go.Proofs.Ytfmgjhaofbdlpaa
open Go.ChangeShapes Go.WideShapes Go.ChangeAt Go.RowKit Go.Lib Go.Joins
theorem cells_in : Try.prog.cellsOf 3 = 1 := by kernel_rfl
end Go.Proofs.Ytfmgjhaofbdlpaa
namespace Go.Proofs.Ytfmgjhaofbdlpaa
open Go.RowKit
/-- A slice over code bytes is returned. -/
def CodeRet (w : World) (e : Ending) : Prop := ∃ a1 l1 c1, e = .returned (.slice a1 l1 c1) ∧ CodeAt w w.heap.size a1 l1
theorem codeRet {w : World} {a1 : Option Addr} {l1 : Nat} (c1 : Nat) (h : CodeAt w w.heap.size a1 l1) : CodeRet w (.returned (.slice a1 l1 c1)) := ⟨_, _, _, rfl, h⟩
theorem CodeAt.tail {w : World} {B b off len : Nat} (h : CodeAt w B (some ⟨b, off, none⟩) len) (hp : 0 < len) : CodeAt w B (some ⟨b, off + 1, none⟩) (len - 1) := by
  refine ⟨Nat.le_trans (Nat.sub_le _ _) h.1, fun _ => ?_⟩
  obtain ⟨b', off', e, hb, hc⟩ := h.2 hp
  injection e with e
  injection e with e1 e2
  subst e1
  subst e2
  refine ⟨_, _, rfl, hb, fun j hj => ?_⟩
  obtain ⟨v, v0, v1, hv⟩ := hc (j + 1) (by omega)
  exact ⟨v, v0, v1, by rw [show off + 1 + j = off + (j + 1) by omega]; exact hv⟩
theorem CodeAt.none (w : World) (B : Nat) (a : Option Addr) : CodeAt w B a 0 := ⟨by omega, fun h => absurd h (by omega)⟩
end Go.Proofs.Ytfmgjhaofbdlpaa
namespace Go.Proofs.Ytfmgjhaofbdlpaa
open Go.RowKit
set_option maxRecDepth 100000 in
set_option maxHeartbeats 800000 in
theorem at0_any (a0 : Option Addr) (len cap k : Nat) (hk : k ≤ 100) (w : World) (_ : len ≤ cap) (hs : len ≤ 1048576) (hcode : CodeAt w w.heap.size a0 len) :
    Calls Try.prog 22 #[.slice a0 len cap, .int .i64 k] w fun e w' => (∃ v : Int, e = .returned (.int .i64 v) ∧ 0 ≤ v ∧ v ≤ 255) ∧ w = w' := by
  by_cases h : k < len
  · obtain ⟨b, off, rfl, hb, hc⟩ := hcode.2 (by omega)
    obtain ⟨v, v0, v1, hv⟩ := hc k h
    clear hcode hc
    go_enter Try.func22, Try.ntmps22
    go_wp2_with fail
    go_ret
    exact ⟨⟨v, rfl, v0, v1⟩, rfl⟩
  · clear hcode
    go_enter Try.func22, Try.ntmps22
    go_wp2_with fail
    go_ret
    exact ⟨⟨_, rfl, by omega, by omega⟩, rfl⟩
end Go.Proofs.Ytfmgjhaofbdlpaa
