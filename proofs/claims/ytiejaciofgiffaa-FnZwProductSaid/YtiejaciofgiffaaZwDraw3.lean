/- The draws of the product, of one element, of the division. -/
import Derived.Test.YtiejaciofgiffaaZwDraw2
namespace Go.Proofs.Ytiejaciofgiffaa
open Go.RowKit
set_option maxRecDepth 100000 in
set_option maxHeartbeats 800000 in
theorem drawMul_any (a0 : Option Addr) (len cap : Nat) (w : World) (hcode : CodeAt w w.heap.size a0 len) :
    Calls Try.prog 20 #[.slice a0 len cap] w fun e w' => Z2Ret e ∧ Below w.heap.size w w' := by
  have hb0 : Below w.heap.size w ((w.alloc (.cells #[.int .i64 0, .int .i64 0, .int .i64 0, .int .i64 0] 25)).alloc (.cells #[.int .i64 0, .int .i64 0, .int .i64 0, .int .i64 0] 25)) := by go_grown
  have hr0 := alloc_blk (.cells #[.int .i64 0, .int .i64 0, .int .i64 0, .int .i64 0] 25) (heap_alloc_new w (.cells #[.int .i64 0, .int .i64 0, .int .i64 0, .int .i64 0] 25))
  have hr1 := heap_alloc_new (w.alloc (.cells #[.int .i64 0, .int .i64 0, .int .i64 0, .int .i64 0] 25)) (.cells #[.int .i64 0, .int .i64 0, .int .i64 0, .int .i64 0] 25)
  have Hc := Lib.hid ((hcode.below hb0).mono hb0.size)
  have Hr0 := Lib.hid hr0
  have Hr1 := Lib.hid hr1
  have Hb0 := Lib.hid hb0
  clear hcode hb0 hr0 hr1
  go_enter Try.func20, Try.ntmps20
  go_wp2_with fail
  refine (drawAdd_any a0 len cap _ Hc.out).mono ?_
  rintro e w3 ⟨⟨x, y, rfl⟩, hb1⟩
  have Hb3 := Lib.hid (below_nx Hb0.out hb1)
  have hr03 := below_blk (g := w.heap.size) hb1 (by simp; omega) Hr0.out
  have hr13 := below_blk (g := w.heap.size + 1) hb1 (by simp) (by simpa using Hr1.out)
  have Hr03 := Lib.hid hr03
  have Hr13 := Lib.hid hr13
  obtain ⟨c0, c1, c2, c3⟩ := blk_cells hr03
  obtain ⟨d0, d1, d2, d3⟩ := blk_cells hr13
  have f0 := fun o => free_at hr03 o
  have f1 := fun o => free_at hr13 o
  clear hb1 hr03 hr13
  go_wp2_with fail
  obtain ⟨k0, k1, k2, k3⟩ := blk_cells (set4_blk (u0 := .int .i64 y.a) (u1 := .int .i64 y.b) (u2 := .int .i64 y.c) (u3 := .int .i64 y.d) (g := w.heap.size + 1) (by omega) (set4_at (u0 := .int .i64 x.a) (u1 := .int .i64 x.b) (u2 := .int .i64 x.c) (u3 := .int .i64 x.d) Hr03.out))
  obtain ⟨l0, l1, l2, l3⟩ := blk_cells (set4_at (u0 := .int .i64 y.a) (u1 := .int .i64 y.b) (u2 := .int .i64 y.c) (u3 := .int .i64 y.d) (set4_blk (u0 := .int .i64 x.a) (u1 := .int .i64 x.b) (u2 := .int .i64 x.c) (u3 := .int .i64 x.d) (g := w.heap.size) (by omega) Hr13.out))
  refine bodyPost_ret (v := .tuple #[(.agg #[.int .i64 x.a, .int .i64 x.b, .int .i64 x.c, .int .i64 x.d]), (.agg #[.int .i64 y.a, .int .i64 y.b, .int .i64 y.c, .int .i64 y.d])]) (by simp only [results, Try.results20]; simp [go_sem, k0, k1, k2, k3, l0, l1, l2, l3]) rfl ⟨z2ret _ _ _ _ _ _ _ _, ?_⟩
  have := Hb3.out
  go_grown
set_option maxRecDepth 100000 in
set_option maxHeartbeats 800000 in
theorem drawValid_any (a0 : Option Addr) (len cap : Nat) (w : World) (hcode : CodeAt w w.heap.size a0 len) :
    Calls Try.prog 29 #[.slice a0 len cap] w fun e w' => ZRet e ∧ Below w.heap.size w w' := by
  have hb0 : Below w.heap.size w (w.alloc (.cells #[.int .i64 0, .int .i64 0, .int .i64 0, .int .i64 0] 25)) := by go_grown
  have hr0 := heap_alloc_new w (.cells #[.int .i64 0, .int .i64 0, .int .i64 0, .int .i64 0] 25)
  have Hc := Lib.hid ((hcode.below hb0).mono hb0.size)
  have Hr0 := Lib.hid hr0
  have Hb0 := Lib.hid hb0
  clear hcode hb0 hr0
  go_enter Try.func29, Try.ntmps29
  go_wp2_with fail
  refine (new_any a0 len cap _ Hc.out).mono ?_
  rintro e w1 ⟨rfl, hc1, hb1, hB1⟩
  rw [World.size_alloc] at hc1 hB1
  have Hc1 := Lib.hid hc1
  have Hb1 := Lib.hid (below_nx Hb0.out hb1)
  have Hr01 := Lib.hid (below_blk (g := w.heap.size) hb1 (by simp) Hr0.out)
  have zg1 : w.heap.size < w1.heap.size := by omega
  clear hc1 hb1
  go_wp2_with fail
  refine (zw_any _ _ Hc1.out hB1).mono ?_
  rintro e w2 ⟨⟨x, rfl⟩, hc2, ho2⟩
  have hr02 := own_blk ho2 (by omega) Hr01.out
  have Hr02 := Lib.hid hr02
  have Hb2 := Lib.hid (below_own Hb1.out ho2 (by omega) (by omega))
  obtain ⟨c0, c1, c2, c3⟩ := blk_cells hr02
  have f0 := fun o => free_at hr02 o
  clear hc2 ho2 hr02
  go_wp2_with fail
  obtain ⟨k0, k1, k2, k3⟩ := blk_cells (set4_at (u0 := .int .i64 x.a) (u1 := .int .i64 x.b) (u2 := .int .i64 x.c) (u3 := .int .i64 x.d) Hr02.out)
  refine bodyPost_ret (v := (.agg #[.int .i64 x.a, .int .i64 x.b, .int .i64 x.c, .int .i64 x.d])) (by simp only [results, Try.results29]; simp [go_sem, k0, k1, k2, k3]) rfl ⟨zret _ _ _ _, ?_⟩
  have := Hb2.out
  go_grown
set_option maxRecDepth 100000 in
set_option maxHeartbeats 1600000 in
theorem drawDiv_any (a0 : Option Addr) (len cap : Nat) (w : World) (hcode : CodeAt w w.heap.size a0 len) :
    Calls Try.prog 26 #[.slice a0 len cap] w fun e w' => ZRet e ∧ Below w.heap.size w w' := by
  have hb0 : Below w.heap.size w (w.alloc (.cells #[.int .i64 0, .int .i64 0, .int .i64 0, .int .i64 0] 25)) := by go_grown
  have hr0 := heap_alloc_new w (.cells #[.int .i64 0, .int .i64 0, .int .i64 0, .int .i64 0] 25)
  have Hc := Lib.hid ((hcode.below hb0).mono hb0.size)
  have Hr0 := Lib.hid hr0
  have Hb0 := Lib.hid hb0
  clear hcode hb0 hr0
  go_enter Try.func26, Try.ntmps26
  go_wp2_with fail
  refine (new_any a0 len cap _ Hc.out).mono ?_
  rintro e w1 ⟨rfl, hc1, hb1, hB1⟩
  rw [World.size_alloc] at hc1 hB1
  have Hc1 := Lib.hid hc1
  have Hb1 := Lib.hid (below_nx Hb0.out hb1)
  have Hr01 := Lib.hid (below_blk (g := w.heap.size) hb1 (by simp) Hr0.out)
  have zg1 : w.heap.size < w1.heap.size := by omega
  clear hc1 hb1
  go_wp2_with fail
  refine (zw_any _ _ Hc1.out hB1).mono ?_
  rintro e w2 ⟨⟨x, rfl⟩, hc2, ho2⟩
  have hs2 := ho2.size
  have Hr02 := Lib.hid (own_blk ho2 (by omega) Hr01.out)
  have Hb2 := Lib.hid (below_own Hb1.out ho2 (by omega) (by omega))
  have hx := heap_alloc_new w2 (.cells #[.int .i64 x.a, .int .i64 x.b, .int .i64 x.c, .int .i64 x.d] 25)
  have Hx := Lib.hid hx
  have Hc2 := Lib.hid (hc2.own (own_alloc (own_refl w2.heap.size w2) (.cells #[.int .i64 x.a, .int .i64 x.b, .int .i64 x.c, .int .i64 x.d] 25)) (by omega))
  have Hr02x := Lib.hid (alloc_blk (.cells #[.int .i64 x.a, .int .i64 x.b, .int .i64 x.c, .int .i64 x.d] 25) Hr02.out)
  have Hb2x := Lib.hid (Hb2.out.alloc Hb2.out.size (.cells #[.int .i64 x.a, .int .i64 x.b, .int .i64 x.c, .int .i64 x.d] 25))
  clear hc2 ho2 hx
  go_wp2_with fail
  refine (once_any (w.heap.size + 1) 2 _ Hc2.out (by omega) (by omega)).mono ?_
  rintro e w3 ⟨⟨b, rfl⟩, hc3, ho3⟩
  have hs3 := ho3.size
  simp at hs3
  have hr03 := own_blk ho3 (by omega) Hr02x.out
  have Hr03 := Lib.hid hr03
  have hx3 := own_blk ho3 (by omega) Hx.out
  have Hb3 := Lib.hid (below_own Hb2x.out ho3 (by omega) (by simp; omega))
  have hz3 : w2.heap.size < w3.heap.size := by omega
  have Hx3 := Lib.hid hx3
  obtain ⟨c0, c1, c2, c3⟩ := blk_cells hr03
  have f0 := fun o => free_at hr03 o
  obtain ⟨d0, d1, d2, d3⟩ := blk_cells hx3
  clear hc3 ho3 hr03 hx3
  cases b
  · go_wp2_with fail
    obtain ⟨k0, k1, k2, k3⟩ := blk_cells (set4_at (u0 := .int .i64 x.a) (u1 := .int .i64 x.b) (u2 := .int .i64 x.c) (u3 := .int .i64 x.d) Hr03.out)
    refine bodyPost_ret (v := (.agg #[.int .i64 x.a, .int .i64 x.b, .int .i64 x.c, .int .i64 x.d])) (by simp only [results, Try.results26]; simp [go_sem, k0, k1, k2, k3]) rfl ⟨zret _ _ _ _, ?_⟩
    have := Hb3.out
    go_grown
  · have Hm := Lib.hid (smul_any x ⟨0, 1, 0, -1⟩)
    generalize mulV x ⟨0, 1, 0, -1⟩ = r at *
    generalize mulB x ⟨0, 1, 0, -1⟩ = t at *
    go_wp2_with fail
    refine (Hm.out _).mono ?_
    rintro e w4 ⟨rfl, hb4⟩
    have hs4 := hb4.size
    have hr04 := below_blk hb4 (by omega) Hr03.out
    have hx4 := below_blk hb4 (by omega) Hx3.out
    have Hr04 := Lib.hid (alloc_blk (.cells #[.int .i64 r.a, .int .i64 r.b, .int .i64 r.c, .int .i64 r.d] 25) hr04)
    have Hb4 := Lib.hid ((below_nx Hb3.out hb4).alloc (by omega) (.cells #[.int .i64 r.a, .int .i64 r.b, .int .i64 r.c, .int .i64 r.d] 25))
    have hr04x := Hr04.out
    have hx4x := alloc_blk (.cells #[.int .i64 r.a, .int .i64 r.b, .int .i64 r.c, .int .i64 r.d] 25) hx4
    obtain ⟨e0, e1, e2, e3⟩ := blk_cells hr04x
    have g0 := fun o => free_at hr04x o
    obtain ⟨i0, i1, i2, i3⟩ := blk_cells hx4x
    clear hb4 hr04 hx4 hr04x hx4x c0 c1 c2 c3 d0 d1 d2 d3 f0
    cases t
    · go_wp2_with fail
      obtain ⟨k0, k1, k2, k3⟩ := blk_cells (set4_at (u0 := .int .i64 x.a) (u1 := .int .i64 x.b) (u2 := .int .i64 x.c) (u3 := .int .i64 x.d) Hr04.out)
      refine bodyPost_ret (v := (.agg #[.int .i64 x.a, .int .i64 x.b, .int .i64 x.c, .int .i64 x.d])) (by simp only [results, Try.results26]; simp [go_sem, k0, k1, k2, k3]) rfl ⟨zret _ _ _ _, ?_⟩
      have := Hb4.out
      go_grown
    · go_wp2_with fail
      obtain ⟨k0, k1, k2, k3⟩ := blk_cells (set4_at (u0 := .int .i64 r.a) (u1 := .int .i64 r.b) (u2 := .int .i64 r.c) (u3 := .int .i64 r.d) Hr04.out)
      refine bodyPost_ret (v := (.agg #[.int .i64 r.a, .int .i64 r.b, .int .i64 r.c, .int .i64 r.d])) (by simp only [results, Try.results26]; simp [go_sem, k0, k1, k2, k3]) rfl ⟨zret _ _ _ _, ?_⟩
      have := Hb4.out
      go_grown
/-- A slice over code bytes is returned. -/
def CodeRet (w : World) (e : Ending) : Prop := ∃ a1 l1 c1, e = .returned (.slice a1 l1 c1) ∧ CodeAt w w.heap.size a1 l1
theorem codeRet {w : World} {a1 : Option Addr} {l1 : Nat} (c1 : Nat) (h : CodeAt w w.heap.size a1 l1) : CodeRet w (.returned (.slice a1 l1 c1)) := ⟨_, _, _, rfl, h⟩
theorem CodeAt.tail {w : World} {B b off len : Nat} (h : CodeAt w B (some ⟨b, off, none⟩) len) (hp : 0 < len) : CodeAt w B (some ⟨b, off + 1, none⟩) (len - 1) := by
  refine ⟨Nat.le_trans (Nat.sub_le _ _) h.1, fun _ => ?_⟩
  obtain ⟨b', off', e, hb, hc⟩ := h.2 hp
  injection e with e
  injection e with e1 e2
  subst e1
  subst e2
  refine ⟨_, _, rfl, hb, fun j hj => ?_⟩
  obtain ⟨v, v0, v1, hv⟩ := hc (j + 1) (by omega)
  exact ⟨v, v0, v1, by rw [show off + 1 + j = off + (j + 1) by omega]; exact hv⟩
theorem CodeAt.none (w : World) (B : Nat) (a : Option Addr) : CodeAt w B a 0 := ⟨by omega, fun h => absurd h (by omega)⟩
set_option maxRecDepth 100000 in
set_option maxHeartbeats 400000 in
/-- All but the first byte: some code in the same memory. -/
theorem tail_any (a0 : Option Addr) (len cap : Nat) (w : World) (hl : len ≤ cap) (hcode : CodeAt w w.heap.size a0 len) :
    Calls Try.prog 25 #[.slice a0 len cap] w fun e w' => CodeRet w e ∧ w = w' := by
  by_cases h0 : len = 0
  · subst h0
    have Hc := Lib.hid hcode
    clear hcode
    go_enter Try.func25, Try.ntmps25
    go_wp2_with fail
    go_ret
    exact ⟨codeRet _ Hc.out, rfl⟩
  · obtain ⟨b, off, rfl, hb, hc⟩ := hcode.2 (by omega)
    have h1 := hcode.1
    have hp : 0 < len := by omega
    have hp1 : 1 ≤ len := by omega
    have Hc := Lib.hid (hcode.tail hp)
    clear hcode hc h0
    by_cases h2 : cap = 1
    · subst h2
      obtain rfl : len = 1 := by omega
      go_enter Try.func25, Try.ntmps25
      go_wp2_with fail
      go_ret
      exact ⟨codeRet _ (CodeAt.none _ _ _), rfl⟩
    · go_enter Try.func25, Try.ntmps25
      go_wp2_with fail
      go_ret
      exact ⟨codeRet _ Hc.out, rfl⟩
end Go.Proofs.Ytiejaciofgiffaa
