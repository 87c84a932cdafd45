/- The draws of chapter 5's laws. -/
import Derived.Test.YtnbmjbnmkbgmaaaDwDraw2
import Derived.Test.YtnbmjbnmkbgmaaaPhS
import Derived.Test.YtnbmjbnmkbgmaaaDraw1b
namespace Go.Proofs.Ytnbmjbnmkbgmaaa
open Go.RowKit
attribute [local irreducible] World.cell?
def IRet (e : Ending) : Prop := ∃ v : Int, e = .returned (.int .i64 v) ∧ -9223372036854775808 ≤ v ∧ v ≤ 9223372036854775807
theorem dPh_e (i : Int) : -9223372036854775808 ≤ (dPh i).e ∧ (dPh i).e ≤ 9223372036854775807 := ⟨(by decide : (-9223372036854775808 : Int) ≤ 0), (by decide : (0 : Int) ≤ 9223372036854775807)⟩
theorem newV_b (n : Zw) (k : Int) : -1073741824 ≤ (newV n k).n.b ∧ (newV n k).n.b ≤ 1073741824 := by
  cases h : newB n k
  · rw [show newV n k = .zero from if_neg (by simp [h])]; decide
  · exact (newV_ok h).1.2.1
set_option maxRecDepth 100000 in
set_option maxHeartbeats 1600000 in
theorem drawPhaseFactor_any (a0 : Option Addr) (len cap : Nat) (w : World) (hcode : CodeAt w w.heap.size a0 len) :
    Calls Try.prog 9 #[.slice a0 len cap] w fun e w' => IRet e ∧ Below w.heap.size w w' := by
  have Hcw := Lib.hid hcode
  have hb0 : Below w.heap.size w w := by go_grown
  have Hb0 := Lib.hid hb0
  have Hcode := Lib.hid ((hcode.below hb0).mono hb0.size)
  clear hcode hb0
  go_enter Try.func9, Try.ntmps9
  go_wp2_with fail
  refine (new_any a0 len cap _ Hcode.out).mono ?_
  rintro e w1 ⟨rfl, hc1, hb1, hB1⟩
  have hBq1 : w.heap.size < w1.heap.size := by simpa using hB1
  clear hB1
  have hbb1 := below_nx Hb0.out hb1
  have Hp1 := Lib.hid hbb1
  have Hx1 := Lib.hid hc1
  have Hb1 := Lib.hid hbb1
  have Hc1 := Lib.hid hc1
  have hB1 := hBq1
  clear hb1 hbb1 hc1
  go_wp2_with fail
  refine (whole_any _ _ Hc1.out hB1).mono ?_
  rintro e w2 ⟨⟨v, v0, v1, rfl⟩, hc2, ho2⟩
  have hBq2 := Nat.lt_of_lt_of_le hB1 ho2.size
  have hbb2 := below_own Hb1.out ho2 (by omega) Hb1.out.size
  have Hp2 := Lib.hid hbb2
  have Hx2 := Lib.hid hc2
  have Hb2 := Lib.hid hbb2
  have Hc2 := Lib.hid hc2
  have hB2 := hBq2
  clear ho2 hbb2 hc2
  go_wp2_with fail
  go_ret
  exact ⟨⟨v, rfl, v0, v1⟩, Hp2.out⟩
set_option maxRecDepth 100000 in
set_option maxHeartbeats 1600000 in
theorem drawPhaseExponent_any (a0 : Option Addr) (len cap : Nat) (w : World) (hcode : CodeAt w w.heap.size a0 len) :
    Calls Try.prog 14 #[.slice a0 len cap] w fun e w' => DRet e ∧ Below w.heap.size w w' := by
  have Hcw := Lib.hid hcode
  have Hr0_0 := Lib.hid (heap_alloc_new w (.cells #[.int .i64 0, .int .i64 0, .int .i64 0, .int .i64 0, .int .i64 0] 29))
  have hb0 : Below w.heap.size w (w.alloc (.cells #[.int .i64 0, .int .i64 0, .int .i64 0, .int .i64 0, .int .i64 0] 29)) := by go_grown
  have Hb0 := Lib.hid hb0
  have Hcode := Lib.hid ((hcode.below hb0).mono hb0.size)
  clear hcode hb0
  have hn0 : w.heap.size ≠ (w.heap.size + 1) := by omega
  go_enter Try.func14, Try.ntmps14
  go_wp2_with fail
  refine (new_any a0 len cap _ Hcode.out).mono ?_
  rintro e w1 ⟨rfl, hc1, hb1, hB1⟩
  have hsz : (w.alloc (.cells #[.int .i64 0, .int .i64 0, .int .i64 0, .int .i64 0, .int .i64 0] 29)).heap.size = w.heap.size + 1 := by simp
  rw [hsz] at hc1 hB1
  clear hsz
  have hr0 := below_blk hb1 (lt_of_block Hr0_0.out) Hr0_0.out
  have zg0 := lt_of_block hr0
  obtain ⟨c0_0, c0_1, c0_2, c0_3, c0_4⟩ := blk_cells5 hr0
  have f0 := fun o => free_at hr0 o
  have Hq1_0 := Lib.hid hr0
  have Hr1_0 := Lib.hid hr0
  have hBq1 : (w.heap.size + 1) < w1.heap.size := by simpa using hB1
  clear hB1
  have hbb1 := below_nx Hb0.out hb1
  have Hp1 := Lib.hid hbb1
  have Hx1 := Lib.hid hc1
  have Hb1 := Lib.hid hbb1
  have Hc1 := Lib.hid hc1
  have hB1 := hBq1
  clear hr0
  clear hb1 hbb1 hc1
  go_wp2_with fail
  refine (once_any _ 2 _ Hc1.out (by omega) (by omega)).mono ?_
  rintro e w2 ⟨⟨b, rfl⟩, hc2, ho2⟩
  clear zg0 f0 c0_0 c0_1 c0_2 c0_3 c0_4
  have hr0 := own_blk ho2 hn0 Hr1_0.out
  have zg0 := lt_of_block hr0
  obtain ⟨c0_0, c0_1, c0_2, c0_3, c0_4⟩ := blk_cells5 hr0
  have f0 := fun o => free_at hr0 o
  have Hq2_0 := Lib.hid hr0
  have Hr2_0 := Lib.hid hr0
  have hBq2 := Nat.lt_of_lt_of_le hB1 ho2.size
  have hbb2 := below_own Hb1.out ho2 (by omega) Hb1.out.size
  have Hp2 := Lib.hid hbb2
  have Hx2 := Lib.hid hc2
  have Hb2 := Lib.hid hbb2
  have Hc2 := Lib.hid hc2
  have hB2 := hBq2
  clear hr0
  clear ho2 hbb2 hc2
  cases b
  · go_wp2_with fail
    refine (bent_any _ _ Hc2.out hB2).mono ?_
    rintro e w3 ⟨⟨x, rfl, x0, x1⟩, hc3, ho3⟩
    clear zg0 f0 c0_0 c0_1 c0_2 c0_3 c0_4
    have hr0 := own_blk ho3 hn0 Hr2_0.out
    have zg0 := lt_of_block hr0
    obtain ⟨c0_0, c0_1, c0_2, c0_3, c0_4⟩ := blk_cells5 hr0
    have f0 := fun o => free_at hr0 o
    have Hq3_0 := Lib.hid hr0
    have Hr3_0 := Lib.hid hr0
    have hBq3 := Nat.lt_of_lt_of_le hB2 ho3.size
    have hbb3 := below_own Hb2.out ho3 (by omega) Hb2.out.size
    have Hp3 := Lib.hid hbb3
    have Hx3 := Lib.hid hc3
    have Hb3 := Lib.hid hbb3
    have Hc3 := Lib.hid hc3
    have hB3 := hBq3
    clear hr0
    clear ho3 hbb3 hc3
    go_wp2_with fail
    obtain ⟨k0, k1, k2, k3, k4⟩ := blk_cells5 ((set5_at (u0 := .int .i64 x.n.a) (u1 := .int .i64 x.n.b) (u2 := .int .i64 x.n.c) (u3 := .int .i64 x.n.d) (u4 := .int .i64 x.e) Hq3_0.out))
    refine bodyPost_ret (v := (.agg #[.int .i64 x.n.a, .int .i64 x.n.b, .int .i64 x.n.c, .int .i64 x.n.d, .int .i64 x.e])) (by simp only [results, Try.results14]; simp [go_sem, k0, k1, k2, k3, k4]) rfl ⟨dret x x0 x1, ?_⟩
    have := Hp3.out
    go_grown
  · go_wp2_with fail
    refine (below_any _ 8 _ Hc2.out (by omega) (by omega)).mono ?_
    rintro e w3 ⟨⟨k, k0, k1, rfl⟩, hc3, ho3⟩
    clear zg0 f0 c0_0 c0_1 c0_2 c0_3 c0_4
    have hr0 := own_blk ho3 hn0 Hr2_0.out
    have zg0 := lt_of_block hr0
    obtain ⟨c0_0, c0_1, c0_2, c0_3, c0_4⟩ := blk_cells5 hr0
    have f0 := fun o => free_at hr0 o
    have Hq3_0 := Lib.hid hr0
    have Hr3_0 := Lib.hid hr0
    have hBq3 := Nat.lt_of_lt_of_le hB2 ho3.size
    have hbb3 := below_own Hb2.out ho3 (by omega) Hb2.out.size
    have Hp3 := Lib.hid hbb3
    have Hx3 := Lib.hid hc3
    have Hb3 := Lib.hid hbb3
    have Hc3 := Lib.hid hc3
    have hB3 := hBq3
    clear hr0
    clear ho3 hbb3 hc3
    have Hph := Lib.hid (sphase k)
    obtain ⟨pe0, pe1⟩ := dPh_e k
    generalize dPh k = x at *
    go_wp2_with fail
    refine (Hph.out _).mono ?_
    rintro e w4 ⟨rfl, hb4⟩
    clear zg0 f0 c0_0 c0_1 c0_2 c0_3 c0_4
    have hr0 := below_blk hb4 (lt_of_block Hr3_0.out) Hr3_0.out
    have zg0 := lt_of_block hr0
    obtain ⟨c0_0, c0_1, c0_2, c0_3, c0_4⟩ := blk_cells5 hr0
    have f0 := fun o => free_at hr0 o
    have Hq4_0 := Lib.hid hr0
    have Hr4_0 := Lib.hid hr0
    have hc4 := Hc3.out.below hb4 hB3
    have hBq4 := Nat.lt_of_lt_of_le hB3 hb4.size
    have hbb4 := below_nx Hb3.out hb4
    have Hp4 := Lib.hid hbb4
    have Hx4 := Lib.hid hc4
    have Hb4 := Lib.hid hbb4
    have Hc4 := Lib.hid hc4
    have hB4 := hBq4
    clear hr0
    clear hb4 hbb4 hc4
    go_wp2_with fail
    obtain ⟨k0, k1, k2, k3, k4⟩ := blk_cells5 ((set5_at (u0 := .int .i64 x.n.a) (u1 := .int .i64 x.n.b) (u2 := .int .i64 x.n.c) (u3 := .int .i64 x.n.d) (u4 := .int .i64 x.e) Hq4_0.out))
    refine bodyPost_ret (v := (.agg #[.int .i64 x.n.a, .int .i64 x.n.b, .int .i64 x.n.c, .int .i64 x.n.d, .int .i64 x.e])) (by simp only [results, Try.results14]; simp [go_sem, k0, k1, k2, k3, k4]) rfl ⟨dret x pe0 pe1, ?_⟩
    have := Hp4.out
    go_grown
end Go.Proofs.Ytnbmjbnmkbgmaaa
