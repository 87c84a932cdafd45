/- cancelSqrt2 of the program; NewDOmega of the program and of its model. -/
import Derived.Test.YtbohbhhgmglcdaaZwDraw2
import Derived.Test.YtbohbhhgmglcdaaBaseA
namespace Go.Proofs.Ytbohbhhgmglcdaa
open Go.RowKit
attribute [local irreducible] World.cell?
set_option maxRecDepth 100000 in
set_option maxHeartbeats 3200000 in
theorem icancel (x : Zw) (k0 : Nat) (hk : k0 ≤ 120) (w : World) :
    Calls Try.prog 86 #[(.agg #[.int .i64 x.a, .int .i64 x.b, .int .i64 x.c, .int .i64 x.d]), .int .i64 k0] w fun e w' => e = .returned (.tuple #[(.agg #[.int .i64 ((red k0 x).1).a, .int .i64 ((red k0 x).1).b, .int .i64 ((red k0 x).1).c, .int .i64 ((red k0 x).1).d]), .int .i64 (red k0 x).2]) ∧ Below w.heap.size w w' := by
  have Hr0 := Lib.hid (alloc_blk (.cells #[.int .i64 0, .int .i64 0, .int .i64 0, .int .i64 0] 31) (heap_alloc_new w (.cells #[.int .i64 x.a, .int .i64 x.b, .int .i64 x.c, .int .i64 x.d] 31)))
  have Hr1 := Lib.hid (heap_alloc_new (w.alloc (.cells #[.int .i64 x.a, .int .i64 x.b, .int .i64 x.c, .int .i64 x.d] 31)) (.cells #[.int .i64 0, .int .i64 0, .int .i64 0, .int .i64 0] 31))
  go_enter Try.func86, Try.ntmps86
  go_wp2_with fail
  go_loopw [1] (fun s1 wr => ∃ (n : Zw) (k : Nat), s1 = .int .i64 k ∧ k ≤ k0 ∧ red k n = red k0 x ∧ wr.heap[w.heap.size]? = some (.cells #[.int .i64 n.a, .int .i64 n.b, .int .i64 n.c, .int .i64 n.d] 31 (0, 0)) ∧ wr.heap[w.heap.size + 1]? = some (.cells #[.int .i64 0, .int .i64 0, .int .i64 0, .int .i64 0] 31 (0, 0)) ∧ Below w.heap.size w wr) (fun s1 _ => (intOf s1).toNat)
  case atStart => exact ⟨x, k0, rfl, Nat.le_refl _, rfl, Hr0.out, by simpa using Hr1.out, by go_grown⟩
  case round =>
    obtain ⟨n, k, rfl, hkk, hred, hb0, hb1, hbl⟩ := hrel
    have zg0 := lt_of_block hb0
    have zg1 := lt_of_block hb1
    obtain ⟨c0, c1, c2, c3⟩ := blk_cells hb0
    have f0 := fun o => free_at hb0 o
    obtain ⟨d0, d1, d2, d3⟩ := blk_cells hb1
    have f1 := fun o => free_at hb1 o
    have Hb0 := Lib.hid hb0
    have Hb1 := Lib.hid hb1
    have Hbl := Lib.hid hbl
    have Hred := Lib.hid hred
    clear hb0 hb1 hbl hred
    cases k with
    | zero =>
      go_wp2_with fail
      obtain ⟨k0, k1, k2, k3⟩ := blk_cells (set4_at (u0 := .int .i64 n.a) (u1 := .int .i64 n.b) (u2 := .int .i64 n.c) (u3 := .int .i64 n.d) Hb1.out)
      refine bodyPost_ret (v := .tuple #[(.agg #[.int .i64 n.a, .int .i64 n.b, .int .i64 n.c, .int .i64 n.d]), .int .i64 0]) (by simp only [results, Try.results86]; simp [go_sem, k0, k1, k2, k3]) rfl ⟨by rw [← Hred.out]; rfl, ?_⟩
      have := Hbl.out
      go_grown
    | succ k =>
      have Hi := Lib.hid (idiv_any n)
      have Hy := Lib.hid (show divB n = true → red (k + 1) n = red k (divV n) from fun h => by rw [red, if_pos h])
      have Hn := Lib.hid (show divB n = false → red (k + 1) n = (n, k + 1) from fun h => by rw [red, if_neg (by simp [h])])
      generalize divV n = q at *
      generalize divB n = t at *
      go_wp2_with fail
      refine (Hi.out _).mono ?_
      rintro e w1 ⟨rfl, hb⟩
      have hs1 := hb.size
      obtain ⟨hc1, hf1, hz1⟩ := bgrow hb
      have zg10 := hz1 _ zg0
      have zg11 := hz1 _ zg1
      have Hb01 := Lib.hid (below_blk hb zg0 Hb0.out)
      have Hb11 := Lib.hid (below_blk hb zg1 Hb1.out)
      have Hbl1 := Lib.hid (below_nx Hbl.out hb)
      clear hb
      cases t
      · have hn := Hn.out rfl
        go_wp2_with fail
        obtain ⟨k0, k1, k2, k3⟩ := blk_cells (alloc_blk (.cells #[.int .i64 q.a, .int .i64 q.b, .int .i64 q.c, .int .i64 q.d] 31) (set4_at (u0 := .int .i64 n.a) (u1 := .int .i64 n.b) (u2 := .int .i64 n.c) (u3 := .int .i64 n.d) Hb11.out))
        refine bodyPost_ret (v := .tuple #[(.agg #[.int .i64 n.a, .int .i64 n.b, .int .i64 n.c, .int .i64 n.d]), .int .i64 ((k + 1 : Nat) : Int)]) (by simp only [results, Try.results86]; simp [go_sem, k0, k1, k2, k3]) rfl ⟨by rw [← Hred.out, hn], ?_⟩
        have := Hbl1.out
        go_grown
      · have hn := Hy.out rfl
        go_wp2_with fail
        go_roundw
        case rel => exact ⟨q, k, by go_num, by omega, by rw [← hn]; exact Hred.out, alloc_blk _ (set4_at Hb01.out), alloc_blk _ (set4_blk (by omega) Hb11.out), by have := Hbl1.out; go_grown⟩
        case measure => simp [intOf]
end Go.Proofs.Ytbohbhhgmglcdaa
