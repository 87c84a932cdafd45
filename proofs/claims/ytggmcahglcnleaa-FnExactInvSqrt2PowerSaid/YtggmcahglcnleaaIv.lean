/- InvSqrt2Power, of the program and of its model. -/
import Derived.Test.YtggmcahglcnleaaDwW
import Derived.Test.YtggmcahglcnleaaDwN
namespace Go.Proofs.Ytggmcahglcnleaa
open Go.RowKit
/-- 1 over the k-th power of the root of 2, or zero past the limits. -/
def isV (k : Int) : Dw := if 0 ≤ k ∧ k ≤ 60 then ⟨⟨1, 0, 0, 0⟩, k⟩ else .zero
theorem isV_new (k : Int) : newV ⟨1, 0, 0, 0⟩ k = isV k := by
  have hd : divB ⟨1, 0, 0, 0⟩ = false := by decide
  have hr : ∀ n : Nat, red n ⟨1, 0, 0, 0⟩ = (⟨1, 0, 0, 0⟩, n) := by
    intro n
    cases n with
    | zero => rfl
    | succ n => unfold red; rw [hd]; rfl
  by_cases h : 0 ≤ k ∧ k ≤ 60
  · have hb : newB ⟨1, 0, 0, 0⟩ k = true := newB_iff.2 ⟨by decide, h.1, by omega, by rw [hr]; show k.toNat ≤ 60; omega⟩
    rw [newV_of hb, hr, show isV k = ⟨⟨1, 0, 0, 0⟩, k⟩ from if_pos h]
    simp only [Dw.mk.injEq, true_and]
    omega
  · have hb : newB ⟨1, 0, 0, 0⟩ k = false := by
      rw [Bool.eq_false_iff]
      intro hb
      obtain ⟨_, h0, h1, h2⟩ := newB_iff.1 hb
      rw [hr] at h2
      exact h ⟨h0, by have : k.toNat ≤ 60 := h2; omega⟩
    rw [show isV k = .zero from if_neg h, newV, if_neg (by rw [hb]; decide)]
attribute [local irreducible] World.cell?
set_option maxRecDepth 100000 in
set_option maxHeartbeats 800000 in
theorem sinv (k : Int) (w : World) :
    Calls Try.prog 4 #[.int .i64 k] w fun e w' => e = .returned (.agg #[.int .i64 (isV k).n.a, .int .i64 (isV k).n.b, .int .i64 (isV k).n.c, .int .i64 (isV k).n.d, .int .i64 (isV k).e]) ∧ Below w.heap.size w w' := by
  have Hi := Lib.hid (fun w => lin_any k 0 60 (decide (0 ≤ k ∧ k ≤ 60)) w rfl)
  by_cases h : 0 ≤ k ∧ k ≤ 60
  · rw [decide_eq_true h] at Hi
    rw [show isV k = ⟨⟨1, 0, 0, 0⟩, k⟩ from if_pos h]
    clear h
    go_enter Try.func4, Try.ntmps4
    go_wp2_with fail
    refine (Hi.out _).mono ?_
    rintro e wx ⟨rfl, rfl⟩
    go_wp2_with fail
    refine bodyPost_ret (v := (.agg #[.int .i64 (Dw.mk ⟨1, 0, 0, 0⟩ k).n.a, .int .i64 (Dw.mk ⟨1, 0, 0, 0⟩ k).n.b, .int .i64 (Dw.mk ⟨1, 0, 0, 0⟩ k).n.c, .int .i64 (Dw.mk ⟨1, 0, 0, 0⟩ k).n.d, .int .i64 (Dw.mk ⟨1, 0, 0, 0⟩ k).e])) (by simp [results, Try.results4, go_sem]) rfl ⟨rfl, ?_⟩
    go_grown
  · rw [decide_eq_false h] at Hi
    rw [show isV k = .zero from if_neg h]
    clear h
    go_enter Try.func4, Try.ntmps4
    go_wp2_with fail
    refine (Hi.out _).mono ?_
    rintro e wx ⟨rfl, rfl⟩
    go_wp2_with fail
    refine bodyPost_ret (v := (.agg #[.int .i64 Dw.zero.n.a, .int .i64 Dw.zero.n.b, .int .i64 Dw.zero.n.c, .int .i64 Dw.zero.n.d, .int .i64 Dw.zero.e])) (by simp [results, Try.results4, go_sem, Dw.zero, Zw.zero]) rfl ⟨rfl, ?_⟩
    go_grown
set_option maxRecDepth 100000 in
set_option maxHeartbeats 800000 in
theorem iinv (k : Int) (w : World) (h0 : -9223372036854775808 ≤ k) (h1 : k ≤ 9223372036854775807) :
    Calls Try.prog 5 #[.int .i64 k] w fun e w' => e = .returned (.agg #[.int .i64 (isV k).n.a, .int .i64 (isV k).n.b, .int .i64 (isV k).n.c, .int .i64 (isV k).n.d, .int .i64 (isV k).e]) ∧ Below w.heap.size w w' := by
  have Hn := Lib.hid (fun w => inew_any ⟨1, 0, 0, 0⟩ k w h0 h1)
  rw [isV_new] at Hn
  generalize isV k = r at *
  generalize newB ⟨1, 0, 0, 0⟩ k = t at *
  have Hr0 := Lib.hid (heap_alloc_new w (.cells #[.int .i64 0, .int .i64 0, .int .i64 0, .int .i64 0, .int .i64 0] 25))
  go_enter Try.func5, Try.ntmps5
  go_wp2_with fail
  refine (Hn.out _).mono ?_
  rintro e w1 ⟨rfl, hb1⟩
  have hr0 := below_blk hb1 (lt_of_block Hr0.out) Hr0.out
  obtain ⟨e0, e1, e2, e3, e4⟩ := blk_cells5 hr0
  have f1 := fun o => free_at hr0 o
  have zk := lt_of_block hr0
  have Hq := Lib.hid hr0
  have Hb1 := Lib.hid (below_up (B := w.heap.size) (w := w) (by go_grown) hb1 (by simp))
  clear hb1 hr0
  go_wp2_with fail
  obtain ⟨k0, k1, k2, k3, k4⟩ := blk_cells5 (alloc_blk (.cells #[.int .i64 r.n.a, .int .i64 r.n.b, .int .i64 r.n.c, .int .i64 r.n.d, .int .i64 r.e] 25) (set5_at (u0 := .int .i64 r.n.a) (u1 := .int .i64 r.n.b) (u2 := .int .i64 r.n.c) (u3 := .int .i64 r.n.d) (u4 := .int .i64 r.e) Hq.out))
  refine bodyPost_ret (v := (.agg #[.int .i64 r.n.a, .int .i64 r.n.b, .int .i64 r.n.c, .int .i64 r.n.d, .int .i64 r.e])) (by simp only [results, Try.results5]; simp [go_sem, k0, k1, k2, k3, k4]) rfl ⟨rfl, ?_⟩
  have := Hb1.out
  go_grown
end Go.Proofs.Ytggmcahglcnleaa
