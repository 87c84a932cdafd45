/- The draws of chapter 4's laws. -/
import Derived.Test.YtggmcahglcnleaaDoorDwT
namespace Go.Proofs.YtggmcahglcnleaaDoor
open Go.RowKit
attribute [local irreducible] World.cell?
def tlist : List ByteArray := [⟨#[44]⟩, ⟨#[47]⟩, ⟨#[48]⟩, ⟨#[45]⟩, ⟨#[49]⟩, ⟨#[32]⟩]
theorem tlist_at (w : World) : ListAt (w.alloc (.cells #[.string ⟨#[44]⟩, .string ⟨#[47]⟩, .string ⟨#[48]⟩, .string ⟨#[45]⟩, .string ⟨#[49]⟩, .string ⟨#[32]⟩] 9)) w.heap.size 6 (fun j => .string (tlist.getD j ByteArray.empty)) := by
  refine zlist_at (heap_alloc_new _ _) 6 _ ?_
  intro j hj
  rcases (show j = 0 ∨ j = 1 ∨ j = 2 ∨ j = 3 ∨ j = 4 ∨ j = 5 by omega) with rfl | rfl | rfl | rfl | rfl | rfl <;> rfl
theorem tlist_small : ∀ j, j < 6 → (tlist.getD j ByteArray.empty).size ≤ 10 := by
  intro j hj
  rcases (show j = 0 ∨ j = 1 ∨ j = 2 ∨ j = 3 ∨ j = 4 ∨ j = 5 by omega) with rfl | rfl | rfl | rfl | rfl | rfl <;> decide
theorem textD_size (x : Dw) : (textD x).size ≤ 1000 := by
  by_cases h : x.ok
  · rw [textD_of h, toB_size]; have := txt_len h; omega
  · rw [textD_no h]; decide
set_option maxRecDepth 100000 in
set_option maxHeartbeats 1600000 in
theorem drawFormatD_any (a0 : Option Addr) (len cap : Nat) (w : World) (hcode : CodeAt w w.heap.size a0 len) :
    Calls Tryd.prog 7 #[.slice a0 len cap] w fun e w' => DRet e ∧ Below w.heap.size w w' := by
  have Hr0_0 := Lib.hid (heap_alloc_new w (.cells #[.int .i64 0, .int .i64 0, .int .i64 0, .int .i64 0, .int .i64 0] 27))
  have hb0 : Below w.heap.size w (w.alloc (.cells #[.int .i64 0, .int .i64 0, .int .i64 0, .int .i64 0, .int .i64 0] 27)) := by go_grown
  have Hb0 := Lib.hid hb0
  have Hcode := Lib.hid ((hcode.below hb0).mono hb0.size)
  clear hcode hb0
  have hn0 : w.heap.size ≠ (w.heap.size + 1) := by omega
  go_enter Tryd.func7, Tryd.ntmps7
  go_wp2_with fail
  refine (new_any a0 len cap _ Hcode.out).mono ?_
  rintro e w1 ⟨rfl, hc1, hb1, hB1⟩
  have hsz : (w.alloc (.cells #[.int .i64 0, .int .i64 0, .int .i64 0, .int .i64 0, .int .i64 0] 27)).heap.size = w.heap.size + 1 := by simp
  rw [hsz] at hc1 hB1
  clear hsz
  have hr0 := below_blk hb1 (lt_of_block Hr0_0.out) Hr0_0.out
  have zg0 := lt_of_block hr0
  obtain ⟨c0_0, c0_1, c0_2, c0_3, c0_4⟩ := blk_cells5 hr0
  have f0 := fun o => free_at hr0 o
  have Hq1_0 := Lib.hid hr0
  have Hr1_0 := Lib.hid hr0
  have hBq1 : (w.heap.size + 1) < w1.heap.size := by simpa using hB1
  clear hB1
  have hbb1 := below_nx Hb0.out hb1
  have Hp1 := Lib.hid hbb1
  have Hx1 := Lib.hid hc1
  have Hb1 := Lib.hid hbb1
  have Hc1 := Lib.hid hc1
  have hB1 := hBq1
  clear hr0
  clear hb1 hbb1 hc1
  go_wp2_with fail
  refine (bent_any _ _ Hc1.out hB1).mono ?_
  rintro e w2 ⟨⟨x, rfl, x0, x1⟩, hc2, ho2⟩
  clear zg0 f0 c0_0 c0_1 c0_2 c0_3 c0_4
  have hr0 := own_blk ho2 hn0 Hr1_0.out
  have zg0 := lt_of_block hr0
  obtain ⟨c0_0, c0_1, c0_2, c0_3, c0_4⟩ := blk_cells5 hr0
  have f0 := fun o => free_at hr0 o
  have Hq2_0 := Lib.hid hr0
  have Hr2_0 := Lib.hid hr0
  have hBq2 := Nat.lt_of_lt_of_le hB1 ho2.size
  have hbb2 := below_own Hb1.out ho2 (by omega) Hb1.out.size
  have Hp2 := Lib.hid hbb2
  have Hx2 := Lib.hid hc2
  have Hb2 := Lib.hid hbb2
  have Hc2 := Lib.hid hc2
  have hB2 := hBq2
  clear hr0
  clear ho2 hbb2 hc2
  go_wp2_with fail
  obtain ⟨k0, k1, k2, k3, k4⟩ := blk_cells5 (set5_at (u0 := .int .i64 x.n.a) (u1 := .int .i64 x.n.b) (u2 := .int .i64 x.n.c) (u3 := .int .i64 x.n.d) (u4 := .int .i64 x.e) Hq2_0.out)
  refine bodyPost_ret (v := (.agg #[.int .i64 x.n.a, .int .i64 x.n.b, .int .i64 x.n.c, .int .i64 x.n.d, .int .i64 x.e])) (by simp only [results, Tryd.results7]; simp [go_sem, k0, k1, k2, k3, k4]) rfl ⟨dret x x0 x1, ?_⟩
  have := Hp2.out
  go_grown
set_option maxRecDepth 100000 in
set_option maxHeartbeats 1600000 in
theorem drawParseD_any (a0 : Option Addr) (len cap : Nat) (w : World) (hcode : CodeAt w w.heap.size a0 len) :
    Calls Tryd.prog 10 #[.slice a0 len cap] w fun e w' => TRet e ∧ Below w.heap.size w w' := by
  have hb0 : Below w.heap.size w w := by go_grown
  have Hb0 := Lib.hid hb0
  have Hcode := Lib.hid ((hcode.below hb0).mono hb0.size)
  clear hcode hb0
  go_enter Tryd.func10, Tryd.ntmps10
  go_wp2_with fail
  refine (new_any a0 len cap _ Hcode.out).mono ?_
  rintro e w1 ⟨rfl, hc1, hb1, hB1⟩
  have hBq1 : w.heap.size < w1.heap.size := by simpa using hB1
  clear hB1
  have hbb1 := below_nx Hb0.out hb1
  have Hp1 := Lib.hid hbb1
  have Hx1 := Lib.hid hc1
  have Hb1 := Lib.hid hbb1
  have Hc1 := Lib.hid hc1
  have hB1 := hBq1
  clear hb1 hbb1 hc1
  go_wp2_with fail
  refine (bent_any _ _ Hc1.out hB1).mono ?_
  rintro e w2 ⟨⟨x, rfl, x0, x1⟩, hc2, ho2⟩
  have hBq2 := Nat.lt_of_lt_of_le hB1 ho2.size
  have hbb2 := below_own Hb1.out ho2 (by omega) Hb1.out.size
  have Hp2 := Lib.hid hbb2
  have Hx2 := Lib.hid hc2
  have Hb2 := Lib.hid hbb2
  have Hc2 := Lib.hid hc2
  have hB2 := hBq2
  clear ho2 hbb2 hc2
  go_wp2_with fail
  refine (sformat_any x _).mono ?_
  rintro e w3 ⟨rfl, hb3⟩
  have hc3 := Hc2.out.below hb3 hB2
  have hBq3 := Nat.lt_of_lt_of_le hB2 hb3.size
  have hbb3 := below_nx Hb2.out hb3
  have Hp3 := Lib.hid hbb3
  have Hx3 := Lib.hid hc3
  have Hb3 := Lib.hid (Below.alloc hbb3 (Below.size hbb3) (.cells #[.string ⟨#[44]⟩, .string ⟨#[47]⟩, .string ⟨#[48]⟩, .string ⟨#[45]⟩, .string ⟨#[49]⟩, .string ⟨#[32]⟩] 9))
  have Hc3 := Lib.hid (hc3.own (own_alloc (own_refl w3.heap.size w3) (.cells #[.string ⟨#[44]⟩, .string ⟨#[47]⟩, .string ⟨#[48]⟩, .string ⟨#[45]⟩, .string ⟨#[49]⟩, .string ⟨#[32]⟩] 9)) hBq3)
  have hB3 : w.heap.size < (w3.alloc (.cells #[.string ⟨#[44]⟩, .string ⟨#[47]⟩, .string ⟨#[48]⟩, .string ⟨#[45]⟩, .string ⟨#[49]⟩, .string ⟨#[32]⟩] 9)).heap.size := by simp; omega
  have Zl3 := Lib.hid (tlist_at w3)
  have hm3 : w3.heap.size ≠ w.heap.size := by omega
  clear hb3 hbb3 hc3
  go_wp2_with fail
  refine (turned_any _ w3.heap.size 6 _ _ (textD x) _ Hc3.out hB3 Zl3.out hm3 (by omega) (by omega) tlist_small (textD_size x)).mono ?_
  rintro e w4 ⟨⟨t, rfl, ht⟩, hc4, ho4⟩
  have hBq4 := Nat.lt_of_lt_of_le hB3 ho4.size
  have hbb4 := below_own Hb3.out ho4 (by omega) Hb3.out.size
  have Hp4 := Lib.hid hbb4
  have Hx4 := Lib.hid hc4
  have Hb4 := Lib.hid hbb4
  have Hc4 := Lib.hid hc4
  have hB4 := hBq4
  clear ho4 hbb4 hc4
  go_wp2_with fail
  go_ret
  exact ⟨tret t ht, Hp4.out⟩
end Go.Proofs.YtggmcahglcnleaaDoor
