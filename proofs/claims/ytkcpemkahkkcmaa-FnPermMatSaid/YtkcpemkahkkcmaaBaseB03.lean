/- BaseB03: several of our texts in one: ZwDraw2 DwE PhM DwV DwW DwO. -/
import Derived.Test.YtkcpemkahkkcmaaZwDraw
import Derived.Test.YtkcpemkahkkcmaaBaseB07
import Derived.Test.YtkcpemkahkkcmaaRows
import Derived.Laws.StructEq
import Derived.Lib.SmallJoins
import Derived.OpenShut
namespace Go.Proofs.Ytkcpemkahkkcmaa
open Go.RowKit
attribute [local irreducible] World.cell?
theorem below_blk {B g : Nat} {W w1 : World} {o : Obj} (h : Below B W w1) (hg : g < B) (hk : W.heap[g]? = some o) : w1.heap[g]? = some o := by
  rw [h.block g hg]; exact hk
theorem set4_blk {g b : Nat} {W : World} {o : Obj} {u0 u1 u2 u3 : Value} (hn : b ≠ g) (h : W.heap[b]? = some o) :
    ((((W.setCell ⟨g, 0, none⟩ u0).setCell ⟨g, 1, none⟩ u1).setCell ⟨g, 2, none⟩ u2).setCell ⟨g, 3, none⟩ u3).heap[b]? = some o := by
  rw [Below.heap_setCell _ _ _ _ (by simpa using hn), Below.heap_setCell _ _ _ _ (by simpa using hn), Below.heap_setCell _ _ _ _ (by simpa using hn), Below.heap_setCell _ _ _ _ (by simpa using hn)]
  exact h
theorem set4_at {g : Nat} {W : World} {t : TypeId} {z0 z1 z2 z3 u0 u1 u2 u3 : Value} (h : W.heap[g]? = some (.cells #[z0, z1, z2, z3] t (0, 0))) :
    ((((W.setCell ⟨g, 0, none⟩ u0).setCell ⟨g, 1, none⟩ u1).setCell ⟨g, 2, none⟩ u2).setCell ⟨g, 3, none⟩ u3).heap[g]? = some (.cells #[u0, u1, u2, u3] t (0, 0)) :=
  heap_set (heap_set (heap_set (heap_set h 0 u0) 1 u1) 2 u2) 3 u3
theorem blk_cells {g : Nat} {W : World} {t : TypeId} {z0 z1 z2 z3 : Value} (h : W.heap[g]? = some (.cells #[z0, z1, z2, z3] t (0, 0))) :
    W.cell? ⟨g, 0, none⟩ = some z0 ∧ W.cell? ⟨g, 1, none⟩ = some z1 ∧ W.cell? ⟨g, 2, none⟩ = some z2 ∧ W.cell? ⟨g, 3, none⟩ = some z3 :=
  ⟨cell_at h 0 _ rfl, cell_at h 1 _ rfl, cell_at h 2 _ rfl, cell_at h 3 _ rfl⟩
theorem size2 (w : World) (p q : Obj) : ((w.alloc p).alloc q).heap.size = w.heap.size + 1 + 1 := by simp
end Go.Proofs.Ytkcpemkahkkcmaa
namespace Go.Proofs.Ytkcpemkahkkcmaa
open Go.RowKit
theorem dw_ext {x y : Dw} (h0 : x.n.a = y.n.a) (h1 : x.n.b = y.n.b) (h2 : x.n.c = y.n.c) (h3 : x.n.d = y.n.d) (h4 : x.e = y.e) : x = y := by
  obtain ⟨⟨a, b, c, d⟩, e⟩ := x
  obtain ⟨⟨p, q, r, s⟩, t⟩ := y
  simp only [] at h0 h1 h2 h3 h4
  subst h0 h1 h2 h3 h4
  rfl
/-- Two fractions are the same, field by field. -/
def eqDB (x y : Dw) : Bool := x.n.a == y.n.a && (x.n.b == y.n.b && (x.n.c == y.n.c && (x.n.d == y.n.d && x.e == y.e)))
theorem eqDB_iff {x y : Dw} : eqDB x y = true ↔ x = y := by
  simp only [eqDB, Bool.and_eq_true, beq_iff_eq]
  exact ⟨fun ⟨h0, h1, h2, h3, h4⟩ => dw_ext h0 h1 h2 h3 h4, fun h => by subst h; exact ⟨rfl, rfl, rfl, rfl, rfl⟩⟩
theorem eqDB_no {x y : Dw} (h : x ≠ y) : eqDB x y = false := by
  rw [Bool.eq_false_iff]; exact fun k => h (eqDB_iff.1 k)
theorem ite5 (p q r s t : Prop) [Decidable p] [Decidable q] [Decidable r] [Decidable s] [Decidable t] (w : World) :
    (if p then if q then if r then if s then if t then Result.ok (Value.bool true) w else Result.ok (Value.bool false) w else Result.ok (Value.bool false) w else Result.ok (Value.bool false) w else Result.ok (Value.bool false) w else Result.ok (Value.bool false) w) =
    Result.ok (Value.bool (decide p && (decide q && (decide r && (decide s && decide t))))) w := by
  by_cases p <;> by_cases q <;> by_cases r <;> by_cases s <;> by_cases t <;> simp [*]
set_option maxRecDepth 100000 in
set_option maxHeartbeats 1600000 in
theorem eqD (x y : Dw) (w : World) : (binOp .eql 86 (.agg #[.int .i64 x.n.a, .int .i64 x.n.b, .int .i64 x.n.c, .int .i64 x.n.d, .int .i64 x.e]) (.agg #[.int .i64 y.n.a, .int .i64 y.n.b, .int .i64 y.n.c, .int .i64 y.n.d, .int .i64 y.e])).run Try.prog w = .ok (.bool (eqDB x y)) w := by
  rw [run_eql_struct, run_equalIn_struct _ 9999 _ _ _ (by kernel_rfl) (by kernel_rfl)]
  simp [go_sem]
  rw [ite5]
  rfl
set_option maxRecDepth 100000 in
set_option maxHeartbeats 1600000 in
theorem neD (x y : Dw) (w : World) : (binOp .neq 86 (.agg #[.int .i64 x.n.a, .int .i64 x.n.b, .int .i64 x.n.c, .int .i64 x.n.d, .int .i64 x.e]) (.agg #[.int .i64 y.n.a, .int .i64 y.n.b, .int .i64 y.n.c, .int .i64 y.n.d, .int .i64 y.e])).run Try.prog w = .ok (.bool (!eqDB x y)) w := by
  rw [run_neq_struct]
  have h := eqD x y w
  rw [run_eql_struct] at h
  generalize (Op.equalIn 10000 86 (.agg #[.int .i64 x.n.a, .int .i64 x.n.b, .int .i64 x.n.c, .int .i64 x.n.d, .int .i64 x.e]) (.agg #[.int .i64 y.n.a, .int .i64 y.n.b, .int .i64 y.n.c, .int .i64 y.n.d, .int .i64 y.e])).run Try.prog w = r at *
  cases r with
  | ok b w1 => simp only [Result.andThen_ok, Result.ok.injEq, Value.bool.injEq] at h ⊢; exact ⟨by rw [h.1], h.2⟩
  | halt a w1 => simp [Result.andThen] at h
end Go.Proofs.Ytkcpemkahkkcmaa
namespace Go.Proofs.Ytkcpemkahkkcmaa
/-- Powers of omega. -/
def phL : List Zw := [⟨1, 0, 0, 0⟩, ⟨0, 1, 0, 0⟩, ⟨0, 0, 1, 0⟩, ⟨0, 0, 0, 1⟩, ⟨-1, 0, 0, 0⟩, ⟨0, -1, 0, 0⟩, ⟨0, 0, -1, 0⟩, ⟨0, 0, 0, -1⟩]
def phN (n : Nat) : Zw := phL.getD n .zero
def dPh (i : Int) : Dw := ⟨phN (i % 8).toNat, 0⟩
instance : DecidableEq Zw := fun x y => decidable_of_iff (x.a = y.a ∧ x.b = y.b ∧ x.c = y.c ∧ x.d = y.d) ⟨fun ⟨h1, h2, h3, h4⟩ => by cases x; cases y; simp_all, fun h => by subst h; exact ⟨rfl, rfl, rfl, rfl⟩⟩
theorem phN_ok (n : Nat) (h : n < 8) : (phN n).ok := by
  rcases (show n = 0 ∨ n = 1 ∨ n = 2 ∨ n = 3 ∨ n = 4 ∨ n = 5 ∨ n = 6 ∨ n = 7 by omega) with rfl | rfl | rfl | rfl | rfl | rfl | rfl | rfl <;> decide
theorem res8 (i : Int) : (i % 8).toNat < 8 := by omega
theorem dPh_ok (i : Int) : (dPh i).ok := ⟨phN_ok _ (res8 i), Int.le_refl _, (by decide : (0 : Int) ≤ 60), .inl rfl⟩
end Go.Proofs.Ytkcpemkahkkcmaa
namespace Go.Proofs.Ytkcpemkahkkcmaa
open Go.RowKit
attribute [local irreducible] World.cell?
set_option maxRecDepth 100000 in
set_option maxHeartbeats 3200000 in
theorem icancel (x : Zw) (k0 : Nat) (hk : k0 ≤ 120) (w : World) :
    Calls Try.prog 183 #[(.agg #[.int .i64 x.a, .int .i64 x.b, .int .i64 x.c, .int .i64 x.d]), .int .i64 k0] w fun e w' => e = .returned (.tuple #[(.agg #[.int .i64 ((red k0 x).1).a, .int .i64 ((red k0 x).1).b, .int .i64 ((red k0 x).1).c, .int .i64 ((red k0 x).1).d]), .int .i64 (red k0 x).2]) ∧ Below w.heap.size w w' := by
  have Hr0 := Lib.hid (alloc_blk (.cells #[.int .i64 0, .int .i64 0, .int .i64 0, .int .i64 0] 84) (heap_alloc_new w (.cells #[.int .i64 x.a, .int .i64 x.b, .int .i64 x.c, .int .i64 x.d] 84)))
  have Hr1 := Lib.hid (heap_alloc_new (w.alloc (.cells #[.int .i64 x.a, .int .i64 x.b, .int .i64 x.c, .int .i64 x.d] 84)) (.cells #[.int .i64 0, .int .i64 0, .int .i64 0, .int .i64 0] 84))
  go_enter Try.func183, Try.ntmps183
  go_wp2_with fail
  go_loopw [1] (fun s1 wr => ∃ (n : Zw) (k : Nat), s1 = .int .i64 k ∧ k ≤ k0 ∧ red k n = red k0 x ∧ wr.heap[w.heap.size]? = some (.cells #[.int .i64 n.a, .int .i64 n.b, .int .i64 n.c, .int .i64 n.d] 84 (0, 0)) ∧ wr.heap[w.heap.size + 1]? = some (.cells #[.int .i64 0, .int .i64 0, .int .i64 0, .int .i64 0] 84 (0, 0)) ∧ Below w.heap.size w wr) (fun s1 _ => (intOf s1).toNat)
  case atStart => exact ⟨x, k0, rfl, Nat.le_refl _, rfl, Hr0.out, by simpa using Hr1.out, by go_grown⟩
  case round =>
    obtain ⟨n, k, rfl, hkk, hred, hb0, hb1, hbl⟩ := hrel
    have zg0 := lt_of_block hb0
    have zg1 := lt_of_block hb1
    obtain ⟨c0, c1, c2, c3⟩ := blk_cells hb0
    have f0 := fun o => free_at hb0 o
    obtain ⟨d0, d1, d2, d3⟩ := blk_cells hb1
    have f1 := fun o => free_at hb1 o
    have Hb0 := Lib.hid hb0
    have Hb1 := Lib.hid hb1
    have Hbl := Lib.hid hbl
    have Hred := Lib.hid hred
    clear hb0 hb1 hbl hred
    cases k with
    | zero =>
      go_wp2_with fail
      obtain ⟨k0, k1, k2, k3⟩ := blk_cells (set4_at (u0 := .int .i64 n.a) (u1 := .int .i64 n.b) (u2 := .int .i64 n.c) (u3 := .int .i64 n.d) Hb1.out)
      refine bodyPost_ret (v := .tuple #[(.agg #[.int .i64 n.a, .int .i64 n.b, .int .i64 n.c, .int .i64 n.d]), .int .i64 0]) (by simp only [results, Try.results183]; simp [go_sem, k0, k1, k2, k3]) rfl ⟨by rw [← Hred.out]; rfl, ?_⟩
      have := Hbl.out
      go_grown
    | succ k =>
      have Hi := Lib.hid (idiv_any n)
      have Hy := Lib.hid (show divB n = true → red (k + 1) n = red k (divV n) from fun h => by rw [red, if_pos h])
      have Hn := Lib.hid (show divB n = false → red (k + 1) n = (n, k + 1) from fun h => by rw [red, if_neg (by simp [h])])
      generalize divV n = q at *
      generalize divB n = t at *
      go_wp2_with fail
      refine (Hi.out _).mono ?_
      rintro e w1 ⟨rfl, hb⟩
      have hs1 := hb.size
      obtain ⟨hc1, hf1, hz1⟩ := bgrow hb
      have zg10 := hz1 _ zg0
      have zg11 := hz1 _ zg1
      have Hb01 := Lib.hid (below_blk hb zg0 Hb0.out)
      have Hb11 := Lib.hid (below_blk hb zg1 Hb1.out)
      have Hbl1 := Lib.hid (below_nx Hbl.out hb)
      clear hb
      cases t
      · have hn := Hn.out rfl
        go_wp2_with fail
        obtain ⟨k0, k1, k2, k3⟩ := blk_cells (alloc_blk (.cells #[.int .i64 q.a, .int .i64 q.b, .int .i64 q.c, .int .i64 q.d] 84) (set4_at (u0 := .int .i64 n.a) (u1 := .int .i64 n.b) (u2 := .int .i64 n.c) (u3 := .int .i64 n.d) Hb11.out))
        refine bodyPost_ret (v := .tuple #[(.agg #[.int .i64 n.a, .int .i64 n.b, .int .i64 n.c, .int .i64 n.d]), .int .i64 ((k + 1 : Nat) : Int)]) (by simp only [results, Try.results183]; simp [go_sem, k0, k1, k2, k3]) rfl ⟨by rw [← Hred.out, hn], ?_⟩
        have := Hbl1.out
        go_grown
      · have hn := Hy.out rfl
        go_wp2_with fail
        go_roundw
        case rel => exact ⟨q, k, by go_num, by omega, by rw [← hn]; exact Hred.out, alloc_blk _ (set4_at Hb01.out), alloc_blk _ (set4_blk (by omega) Hb11.out), by have := Hbl1.out; go_grown⟩
        case measure => simp [intOf]
end Go.Proofs.Ytkcpemkahkkcmaa
namespace Go.Proofs.Ytkcpemkahkkcmaa
open Go.RowKit
attribute [local irreducible] World.cell?
theorem set5_blk {g b : Nat} {W : World} {o : Obj} {u0 u1 u2 u3 u4 : Value} (hn : b ≠ g) (h : W.heap[b]? = some o) :
    (((((W.setCell ⟨g, 0, none⟩ u0).setCell ⟨g, 1, none⟩ u1).setCell ⟨g, 2, none⟩ u2).setCell ⟨g, 3, none⟩ u3).setCell ⟨g, 4, none⟩ u4).heap[b]? = some o := by
  rw [Below.heap_setCell _ _ _ _ (by simpa using hn)]
  exact set4_blk hn h
theorem set5_at {g : Nat} {W : World} {t : TypeId} {z0 z1 z2 z3 z4 u0 u1 u2 u3 u4 : Value} (h : W.heap[g]? = some (.cells #[z0, z1, z2, z3, z4] t (0, 0))) :
    (((((W.setCell ⟨g, 0, none⟩ u0).setCell ⟨g, 1, none⟩ u1).setCell ⟨g, 2, none⟩ u2).setCell ⟨g, 3, none⟩ u3).setCell ⟨g, 4, none⟩ u4).heap[g]? = some (.cells #[u0, u1, u2, u3, u4] t (0, 0)) :=
  heap_set (heap_set (heap_set (heap_set (heap_set h 0 u0) 1 u1) 2 u2) 3 u3) 4 u4
theorem blk_cells5 {g : Nat} {W : World} {t : TypeId} {z0 z1 z2 z3 z4 : Value} (h : W.heap[g]? = some (.cells #[z0, z1, z2, z3, z4] t (0, 0))) :
    W.cell? ⟨g, 0, none⟩ = some z0 ∧ W.cell? ⟨g, 1, none⟩ = some z1 ∧ W.cell? ⟨g, 2, none⟩ = some z2 ∧ W.cell? ⟨g, 3, none⟩ = some z3 ∧ W.cell? ⟨g, 4, none⟩ = some z4 :=
  ⟨cell_at h 0 _ rfl, cell_at h 1 _ rfl, cell_at h 2 _ rfl, cell_at h 3 _ rfl, cell_at h 4 _ rfl⟩
set_option maxRecDepth 100000 in
set_option maxHeartbeats 400000 in
theorem lin_yes (x lo hi : Int) (w : World) (h0 : lo ≤ x) (h1 : x ≤ hi) :
    Calls Try.prog 73 #[.int .i64 x, .int .i64 lo, .int .i64 hi] w fun e w' => e = .returned (.bool true) ∧ w = w' := by
  go_enter Try.func73, Try.ntmps73
  go_wp2_with fail
  go_ret
  exact ⟨rfl, rfl⟩
set_option maxRecDepth 100000 in
set_option maxHeartbeats 400000 in
theorem lin_no (x lo hi : Int) (w : World) (h : ¬ (lo ≤ x ∧ x ≤ hi)) :
    Calls Try.prog 73 #[.int .i64 x, .int .i64 lo, .int .i64 hi] w fun e w' => e = .returned (.bool false) ∧ w = w' := by
  have h' : x < lo ∨ hi < x := by omega
  clear h
  rcases h' with h | h
  · have hd : decide (lo ≤ x) = false := by simpa using h
    go_enter Try.func73, Try.ntmps73
    go_wp2_with fail
    go_ret
    exact ⟨rfl, rfl⟩
  · by_cases h0 : lo ≤ x
    · have hd : decide (x ≤ hi) = false := by simpa using h
      go_enter Try.func73, Try.ntmps73
      go_wp2_with fail
      go_ret
      exact ⟨rfl, rfl⟩
    · have hd : decide (lo ≤ x) = false := by simpa using h0
      clear h0
      go_enter Try.func73, Try.ntmps73
      go_wp2_with fail
      go_ret
      exact ⟨rfl, rfl⟩
theorem lin_any (x lo hi : Int) (b : Bool) (w : World) (h : decide (lo ≤ x ∧ x ≤ hi) = b) :
    Calls Try.prog 73 #[.int .i64 x, .int .i64 lo, .int .i64 hi] w fun e w' => e = .returned (.bool b) ∧ w = w' := by
  cases b
  · exact lin_no x lo hi w (by simpa using h)
  · have := of_decide_eq_true h
    exact lin_yes x lo hi w this.1 this.2
set_option maxRecDepth 100000 in
set_option maxHeartbeats 1600000 in
theorem inew_go (x : Zw) (k : Nat) (r : Dw) (t : Bool) (w : World) (h : x.ok) (h1 : k ≤ 120)
    (hy : (red k x).2 ≤ 60 → r = ⟨(red k x).1, (red k x).2⟩ ∧ t = true) (hn : 60 < (red k x).2 → r = .zero ∧ t = false) :
    Calls Try.prog 161 #[(.agg #[.int .i64 x.a, .int .i64 x.b, .int .i64 x.c, .int .i64 x.d]), .int .i64 k] w fun e w' => e = .returned (.tuple #[(.agg #[.int .i64 r.n.a, .int .i64 r.n.b, .int .i64 r.n.c, .int .i64 r.n.d, .int .i64 r.e]), .bool t]) ∧ Below w.heap.size w w' := by
  have Hv := Lib.hid (okB_true.2 h)
  have Hc := Lib.hid (icancel x k h1)
  have Hr0 := Lib.hid (alloc_blk (.cells #[.int .i64 0, .int .i64 0, .int .i64 0, .int .i64 0, .int .i64 0] 86) (heap_alloc_new w (.cells #[.int .i64 x.a, .int .i64 x.b, .int .i64 x.c, .int .i64 x.d] 84)))
  have Hr1 := Lib.hid (show ((w.alloc (.cells #[.int .i64 x.a, .int .i64 x.b, .int .i64 x.c, .int .i64 x.d] 84)).alloc (.cells #[.int .i64 0, .int .i64 0, .int .i64 0, .int .i64 0, .int .i64 0] 86)).heap[w.heap.size + 1]? = some (.cells #[.int .i64 0, .int .i64 0, .int .i64 0, .int .i64 0, .int .i64 0] 86 (0, 0)) from by simpa using heap_alloc_new (w.alloc (.cells #[.int .i64 x.a, .int .i64 x.b, .int .i64 x.c, .int .i64 x.d] 84)) (.cells #[.int .i64 0, .int .i64 0, .int .i64 0, .int .i64 0, .int .i64 0] 86))
  have hj := red_le k x
  generalize (red k x).1 = m at *
  generalize (red k x).2 = j at *
  go_enter Try.func161, Try.ntmps161
  go_wp2_with fail
  refine (ivalid_any x true _ Hv.out).mono ?_
  rintro e w1 ⟨rfl, hb1⟩
  have hs1 := hb1.size
  simp at hs1
  have zg0 : w.heap.size < w1.heap.size := by omega
  have zg1 : w.heap.size + 1 < w1.heap.size := by omega
  have Hr01 := Lib.hid (below_blk hb1 (by simp; omega) Hr0.out)
  have Hr11 := Lib.hid (below_blk hb1 (by simp) Hr1.out)
  obtain ⟨c0, c1, c2, c3⟩ := blk_cells Hr01.out
  have Hb1 := Lib.hid (below_up (B := w.heap.size) (w := w) (by go_grown) hb1 (by simp; omega))
  clear hb1
  go_wp2_with fail
  refine (Hc.out _).mono ?_
  rintro e w2 ⟨rfl, hb2⟩
  have hs2 := hb2.size
  have zg20 : w.heap.size < w2.heap.size := by omega
  have zg21 : w.heap.size + 1 < w2.heap.size := by omega
  have hr0 := below_blk hb2 zg0 Hr01.out
  have hr1 := below_blk hb2 zg1 Hr11.out
  obtain ⟨d0, d1, d2, d3⟩ := blk_cells hr0
  have f0 := fun o => free_at hr0 o
  obtain ⟨e0, e1, e2, e3, e4⟩ := blk_cells5 hr1
  have f1 := fun o => free_at hr1 o
  have Hr02 := Lib.hid hr0
  have Hr12 := Lib.hid hr1
  have Hb2 := Lib.hid (below_up Hb1.out hb2 (by omega))
  clear hb2 hr0 hr1 c0 c1 c2 c3
  by_cases hjj : 60 < j
  · obtain ⟨rfl, rfl⟩ := hn hjj
    have hd : decide ((60 : Int) < (j : Int)) = true := decide_eq_true (by omega)
    go_wp2_with fail
    obtain ⟨k0, k1, k2, k3, k4⟩ := blk_cells5 (set5_at (u0 := .int .i64 0) (u1 := .int .i64 0) (u2 := .int .i64 0) (u3 := .int .i64 0) (u4 := .int .i64 0) (set4_blk (u0 := .int .i64 m.a) (u1 := .int .i64 m.b) (u2 := .int .i64 m.c) (u3 := .int .i64 m.d) (g := w.heap.size) (by omega) Hr12.out))
    refine bodyPost_ret (v := .tuple #[(.agg #[.int .i64 Dw.zero.n.a, .int .i64 Dw.zero.n.b, .int .i64 Dw.zero.n.c, .int .i64 Dw.zero.n.d, .int .i64 Dw.zero.e]), .bool false]) (by simp only [results, Try.results161]; simp [go_sem, k0, k1, k2, k3, k4, Dw.zero, Zw.zero]) rfl ⟨rfl, ?_⟩
    have := Hb2.out
    go_grown
  · obtain ⟨rfl, rfl⟩ := hy (by omega)
    have hd : decide ((60 : Int) < (j : Int)) = false := decide_eq_false (by omega)
    go_wp2_with fail
    obtain ⟨k0, k1, k2, k3, k4⟩ := blk_cells5 (set5_at (u0 := .int .i64 m.a) (u1 := .int .i64 m.b) (u2 := .int .i64 m.c) (u3 := .int .i64 m.d) (u4 := .int .i64 j) (set4_blk (u0 := .int .i64 m.a) (u1 := .int .i64 m.b) (u2 := .int .i64 m.c) (u3 := .int .i64 m.d) (g := w.heap.size) (by omega) Hr12.out))
    refine bodyPost_ret (v := .tuple #[(.agg #[.int .i64 (Dw.mk m (j : Int)).n.a, .int .i64 (Dw.mk m (j : Int)).n.b, .int .i64 (Dw.mk m (j : Int)).n.c, .int .i64 (Dw.mk m (j : Int)).n.d, .int .i64 (Dw.mk m (j : Int)).e]), .bool true]) (by simp only [results, Try.results161]; simp [go_sem, k0, k1, k2, k3, k4]) rfl ⟨rfl, ?_⟩
    have := Hb2.out
    go_grown
set_option maxRecDepth 100000 in
set_option maxHeartbeats 1600000 in
theorem inew_bad (x : Zw) (k : Int) (w : World) (h0 : -9223372036854775808 ≤ k) (h1 : k ≤ 9223372036854775807) (h : ¬ (x.ok ∧ 0 ≤ k ∧ k ≤ 120)) :
    Calls Try.prog 161 #[(.agg #[.int .i64 x.a, .int .i64 x.b, .int .i64 x.c, .int .i64 x.d]), .int .i64 k] w fun e w' => e = .returned (.tuple #[(.agg #[.int .i64 Dw.zero.n.a, .int .i64 Dw.zero.n.b, .int .i64 Dw.zero.n.c, .int .i64 Dw.zero.n.d, .int .i64 Dw.zero.e]), .bool false]) ∧ Below w.heap.size w w' := by
  have Hr1 := Lib.hid (show ((w.alloc (.cells #[.int .i64 x.a, .int .i64 x.b, .int .i64 x.c, .int .i64 x.d] 84)).alloc (.cells #[.int .i64 0, .int .i64 0, .int .i64 0, .int .i64 0, .int .i64 0] 86)).heap[w.heap.size + 1]? = some (.cells #[.int .i64 0, .int .i64 0, .int .i64 0, .int .i64 0, .int .i64 0] 86 (0, 0)) from by simpa using heap_alloc_new (w.alloc (.cells #[.int .i64 x.a, .int .i64 x.b, .int .i64 x.c, .int .i64 x.d] 84)) (.cells #[.int .i64 0, .int .i64 0, .int .i64 0, .int .i64 0, .int .i64 0] 86))
  have hk : okB x = true → k < 0 ∨ 120 < k := fun hx => by
    have hx := okB_true.1 hx
    by_cases h2 : k < 0
    · exact .inl h2
    · exact .inr (by have : ¬ k ≤ 120 := fun h3 => h ⟨hx, by omega, h3⟩; omega)
  have Hi := Lib.hid (fun w => ivalid_any x (okB x) w rfl)
  clear h
  generalize okB x = b at *
  go_enter Try.func161, Try.ntmps161
  go_wp2_with fail
  refine (Hi.out _).mono ?_
  rintro e w1 ⟨rfl, hb1⟩
  have hr1 := below_blk hb1 (by simp) Hr1.out
  obtain ⟨e0, e1, e2, e3, e4⟩ := blk_cells5 hr1
  have f1 := fun o => free_at hr1 o
  have Hr11 := Lib.hid hr1
  have Hb1 := Lib.hid (below_up (B := w.heap.size) (w := w) (by go_grown) hb1 (by simp; omega))
  clear hb1 hr1
  cases b
  · clear hk
    go_wp2_with fail
    obtain ⟨k0, k1, k2, k3, k4⟩ := blk_cells5 (set5_at (u0 := .int .i64 0) (u1 := .int .i64 0) (u2 := .int .i64 0) (u3 := .int .i64 0) (u4 := .int .i64 0) Hr11.out)
    refine bodyPost_ret (v := .tuple #[(.agg #[.int .i64 Dw.zero.n.a, .int .i64 Dw.zero.n.b, .int .i64 Dw.zero.n.c, .int .i64 Dw.zero.n.d, .int .i64 Dw.zero.e]), .bool false]) (by simp only [results, Try.results161]; simp [go_sem, k0, k1, k2, k3, k4, Dw.zero, Zw.zero]) rfl ⟨rfl, ?_⟩
    have := Hb1.out
    go_grown
  · rcases hk rfl with hk | hk
    · go_wp2_with fail
      obtain ⟨k0, k1, k2, k3, k4⟩ := blk_cells5 (set5_at (u0 := .int .i64 0) (u1 := .int .i64 0) (u2 := .int .i64 0) (u3 := .int .i64 0) (u4 := .int .i64 0) Hr11.out)
      refine bodyPost_ret (v := .tuple #[(.agg #[.int .i64 Dw.zero.n.a, .int .i64 Dw.zero.n.b, .int .i64 Dw.zero.n.c, .int .i64 Dw.zero.n.d, .int .i64 Dw.zero.e]), .bool false]) (by simp only [results, Try.results161]; simp [go_sem, k0, k1, k2, k3, k4, Dw.zero, Zw.zero]) rfl ⟨rfl, ?_⟩
      have := Hb1.out
      go_grown
    · have hk0 : ¬ k < 0 := by omega
      go_wp2_with fail
      obtain ⟨k0, k1, k2, k3, k4⟩ := blk_cells5 (set5_at (u0 := .int .i64 0) (u1 := .int .i64 0) (u2 := .int .i64 0) (u3 := .int .i64 0) (u4 := .int .i64 0) Hr11.out)
      refine bodyPost_ret (v := .tuple #[(.agg #[.int .i64 Dw.zero.n.a, .int .i64 Dw.zero.n.b, .int .i64 Dw.zero.n.c, .int .i64 Dw.zero.n.d, .int .i64 Dw.zero.e]), .bool false]) (by simp only [results, Try.results161]; simp [go_sem, k0, k1, k2, k3, k4, Dw.zero, Zw.zero]) rfl ⟨rfl, ?_⟩
      have := Hb1.out
      go_grown
theorem inew_any (x : Zw) (k : Int) (w : World) (h0 : -9223372036854775808 ≤ k) (h1 : k ≤ 9223372036854775807) :
    Calls Try.prog 161 #[(.agg #[.int .i64 x.a, .int .i64 x.b, .int .i64 x.c, .int .i64 x.d]), .int .i64 k] w fun e w' => e = .returned (.tuple #[(.agg #[.int .i64 (newV x k).n.a, .int .i64 (newV x k).n.b, .int .i64 (newV x k).n.c, .int .i64 (newV x k).n.d, .int .i64 (newV x k).e]), .bool (newB x k)]) ∧ Below w.heap.size w w' := by
  by_cases h : x.ok ∧ 0 ≤ k ∧ k ≤ 120
  · obtain ⟨hx, h2, h3⟩ := h
    obtain ⟨n, rfl⟩ := Int.eq_ofNat_of_zero_le h2
    refine inew_go x n _ _ w hx (by omega) (fun hj => ?_) (fun hj => ?_)
    · have hb : newB x n = true := newB_iff.2 ⟨hx, h2, h3, by simpa using hj⟩
      exact ⟨by rw [newV_of hb]; simp, hb⟩
    · have hb : newB x n = false := by
        rw [Bool.eq_false_iff]; intro hb; have := (newB_iff.1 hb).2.2.2; simp at this; omega
      exact ⟨by rw [newV, hb]; rfl, hb⟩
  · have hb : newB x k = false := by
      rw [Bool.eq_false_iff]; intro hb; have := newB_iff.1 hb; exact h ⟨this.1, this.2.1, this.2.2.1⟩
    rw [newV, hb]
    exact inew_bad x k w h0 h1 h
end Go.Proofs.Ytkcpemkahkkcmaa
namespace Go.Proofs.Ytkcpemkahkkcmaa
open Go.ChangeShapes Go.WideShapes Go.ChangeAt Go.RowKit Go.Lib Go.Joins
theorem cells_dw : Try.prog.cellsOf 115 = 5 := by kernel_rfl
theorem cells_zw : Try.prog.cellsOf 113 = 4 := by kernel_rfl
theorem cells_in : Try.prog.cellsOf 3 = 1 := by kernel_rfl
end Go.Proofs.Ytkcpemkahkkcmaa
