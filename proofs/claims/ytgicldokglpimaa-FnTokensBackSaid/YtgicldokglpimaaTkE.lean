/- The draws that the laws on tokens take. -/
import Derived.Test.YtgicldokglpimaaTkD
namespace Go.Proofs.Ytgicldokglpimaa
open Go.RowKit Go.Lib
def TkI (t : Tk) : Prop := (-1 ≤ t.k ∧ t.k ≤ 5) ∧ t.s.length ≤ 9
theorem TkD.i {t : Tk} (h : TkD t) : TkI t := by
  refine ⟨?_, h.2⟩
  rcases tkT_cases h.1 with ⟨h1, _⟩ | ⟨x, hx, _⟩
  · omega
  · unfold mkT at hx
    split at hx
    · cases hx; decide
    · split at hx
      · cases hx; decide
      · split at hx
        · cases hx; decide
        · cases hx
attribute [local irreducible] World.cell?
set_option maxRecDepth 100000 in
set_option maxHeartbeats 3200000 in
theorem drawTk (a0 : Option Addr) (len cap : Nat) (w : World) (hcode : CodeAt w w.heap.size a0 len) :
    Calls Try.prog 31 #[.slice a0 len cap] w fun e w' => (∃ t : Tk, e = .returned (.agg #[.int .i64 t.k, .string (sb t.s)]) ∧ TkI t) ∧ Below w.heap.size w w' := by
  have Hcode := Lib.hid (show CodeAt (w.alloc (.cells #[.int .i64 0, .string ⟨#[]⟩] 31)) (w.alloc (.cells #[.int .i64 0, .string ⟨#[]⟩] 31)).heap.size a0 len from (hcode.below ((Below.refl _ _).alloc (Nat.le_refl _) (.cells #[.int .i64 0, .string ⟨#[]⟩] 31))).mono (by simp))
  have Hr0 := Lib.hid (heap_alloc_new w (.cells #[.int .i64 0, .string ⟨#[]⟩] 31))
  clear hcode
  go_enter Try.func31, Try.ntmps31
  go_wp2_with fail
  refine (new_any a0 len cap _ Hcode.out).mono ?_
  rintro e w1 ⟨rfl, hc1, hb1, hz1⟩
  have hz0 : (w.alloc (.cells #[.int .i64 0, .string ⟨#[]⟩] 31)).heap.size = w.heap.size + 1 := by simp
  rw [hz0] at hc1 hz1
  have Hr1 := Lib.hid (below_blk hb1 (lt_of_block Hr0.out) Hr0.out)
  have Hc1 := Lib.hid hc1
  have Hb1 := Lib.hid (below_up (B := w.heap.size) (w := w) (by go_grown) hb1 (by simp))
  have hs1 := hb1.size
  rw [hz0] at hs1
  clear hc1 hb1
  go_wp2_with fail
  refine (tok_any (w.heap.size + 1) _ Hc1.out (by omega)).mono ?_
  rintro e w2 ⟨⟨t, rfl, htd⟩, hc2, ho2⟩
  have hti := htd.i
  have hs2 := ho2.size
  obtain ⟨k, s⟩ := t
  simp only at *
  obtain ⟨S, hS⟩ : ∃ S, S = sb s := ⟨_, rfl⟩
  have hs' : s = bs S := by rw [hS, bs_sb]
  subst hs'
  rw [← hS]
  clear hS htd
  have Hr2 := Lib.hid (alloc_blk (.cells #[.int .i64 k, .string S] 31) (own_blk ho2 (by omega) Hr1.out))
  have HG2 := Lib.hid (heap_alloc_new w2 (.cells #[.int .i64 k, .string S] 31))
  have hb2 := below_own Hb1.out ho2 (by omega) (by omega)
  have Hc2 := Lib.hid (hc2.below (w' := w2.alloc (.cells #[.int .i64 k, .string S] 31)) (C := w2.heap.size) (by go_grown) (by omega))
  have Hb2 := Lib.hid (hb2.alloc hb2.size (.cells #[.int .i64 k, .string S] 31))
  clear hc2 ho2 Hc1 Hb1 Hr1 hb2
  go_wp2_with fail
  refine (below_any (w.heap.size + 1) 5 _ Hc2.out (by omega) (by omega)).mono ?_
  rintro e w3 ⟨⟨y, y0, y1, rfl⟩, hc3, ho3⟩
  have hs3 := ho3.size
  simp at hs3
  have Hr3 := Lib.hid (own_blk ho3 (by omega) Hr2.out)
  have HG3 := Lib.hid (own_blk (g := w2.heap.size) ho3 (by omega) HG2.out)
  have Hc3 := Lib.hid hc3
  have Hb3 := Lib.hid (below_own Hb2.out ho3 (by omega) (by simp; omega))
  clear hc3 ho3 Hc2 Hb2 Hr2 HG2
  by_cases q0 : y = 0
  · subst q0
    go_wp2_with fail
    refine (below_any (w.heap.size + 1) 7 _ Hc3.out (by omega) (by omega)).mono ?_
    rintro e w4 ⟨⟨z, z0, z1, rfl⟩, hc4, ho4⟩
    have hs4 := ho4.size
    have HR4 := own_blk ho4 (by omega) Hr3.out
    have HG4 := own_blk (g := w2.heap.size) ho4 (by omega) HG3.out
    have hgl4 := lt_of_block HG4
    obtain ⟨a0', a1'⟩ := blk_cells2 HG4
    have fG := fun o => free_at HG4 o
    have HRf := Lib.hid (set1_blk (o := 0) (u := .int .i64 (z - 1)) (show w.heap.size ≠ w2.heap.size by omega) HR4)
    have Hb4 := Lib.hid (below_own Hb3.out ho4 (by omega) (by omega))
    obtain ⟨r0, r1⟩ := blk_cells2 HR4
    have fR := fun o => free_at HR4 o
    have hRl := lt_of_block HR4
    clear hc4 ho4 Hc3 Hb3 Hr3 HG3 HR4 HG4
    go_wp2_with fail
    obtain ⟨k0', k1'⟩ := blk_cells2 (set2_atT (u0 := .int .i64 (z - 1)) (u1 := .string S) HRf.out)
    refine bodyPost_ret (v := .agg #[.int .i64 (z - 1), .string S]) (by simp only [results, Try.results31]; simp [go_sem, k0', k1']) rfl ⟨⟨⟨z - 1, bs S⟩, by rw [sb_bs], by have := hti.2; exact ⟨⟨by show -1 ≤ z - 1; omega, by show z - 1 ≤ 5; omega⟩, this⟩⟩, ?_⟩
    have := Hb4.out
    go_grown
  by_cases q1 : y = 1
  · subst q1
    have Hc4 := Lib.hid (Hc3.out.below (w' := w3.alloc (.cells #[.string ⟨#[]⟩, .string ⟨#[65]⟩, .string ⟨#[120]⟩, .string ⟨#[49, 50, 51, 52, 53, 54, 55, 56, 57]⟩] 9)) (C := w3.heap.size) (by go_grown) (by omega))
    have Hl4 := Lib.hid (vlist_at w3)
    have HRx := Lib.hid (alloc_blk (.cells #[.string ⟨#[]⟩, .string ⟨#[65]⟩, .string ⟨#[120]⟩, .string ⟨#[49, 50, 51, 52, 53, 54, 55, 56, 57]⟩] 9) Hr3.out)
    have HGx := Lib.hid (alloc_blk (.cells #[.string ⟨#[]⟩, .string ⟨#[65]⟩, .string ⟨#[120]⟩, .string ⟨#[49, 50, 51, 52, 53, 54, 55, 56, 57]⟩] 9) HG3.out)
    have hb3s := Hb3.out.size
    have Hbx := Lib.hid (Hb3.out.alloc hb3s (.cells #[.string ⟨#[]⟩, .string ⟨#[65]⟩, .string ⟨#[120]⟩, .string ⟨#[49, 50, 51, 52, 53, 54, 55, 56, 57]⟩] 9))
    clear Hc3 Hr3 HG3 Hb3
    go_wp2_with fail
    refine (pick_any (w.heap.size + 1) w3.heap.size 4 _ (fun j => vlist.getD j ByteArray.empty) _ Hc4.out Hl4.out (by omega) (by omega) (by omega)).mono ?_
    rintro e w4 ⟨⟨q, hq, rfl⟩, hc4, ho4⟩
    have hV := vlist_ok q hq
    generalize vlist.getD q ByteArray.empty = V at *
    have hs4 := ho4.size
    simp at hs4
    have HR4 := own_blk ho4 (by omega) HRx.out
    have HG4 := own_blk (g := w2.heap.size) ho4 (by omega) HGx.out
    have hgl4 := lt_of_block HG4
    obtain ⟨a0', a1'⟩ := blk_cells2 HG4
    have fG := fun o => free_at HG4 o
    have HRf := Lib.hid (set1_blk (o := 1) (u := .string V) (show w.heap.size ≠ w2.heap.size by omega) HR4)
    have Hb4 := Lib.hid (below_own Hbx.out ho4 (by omega) (by simp; omega))
    obtain ⟨r0, r1⟩ := blk_cells2 HR4
    have fR := fun o => free_at HR4 o
    have hRl := lt_of_block HR4
    clear hc4 ho4 Hc4 Hbx HRx HGx HR4 HG4
    go_wp2_with fail
    obtain ⟨k0', k1'⟩ := blk_cells2 (set2_atT (u0 := .int .i64 k) (u1 := .string V) HRf.out)
    refine bodyPost_ret (v := .agg #[.int .i64 k, .string V]) (by simp only [results, Try.results31]; simp [go_sem, k0', k1']) rfl ⟨⟨⟨k, bs V⟩, by rw [sb_bs], ⟨hti.1, hV⟩⟩, ?_⟩
    have := Hb4.out
    go_grown
  have e0 : (y == 0) = false := by simpa using q0
  have e1 : (y == 1) = false := by simpa using q1
  have hgl4 := lt_of_block HG3.out
  obtain ⟨a0', a1'⟩ := blk_cells2 HG3.out
  obtain ⟨r0, r1⟩ := blk_cells2 Hr3.out
  have fR := fun o => free_at Hr3.out o
  have hRl := lt_of_block Hr3.out
  clear Hc3
  go_wp2_with fail
  obtain ⟨k0', k1'⟩ := blk_cells2 (set2_atT (u0 := .int .i64 k) (u1 := .string S) Hr3.out)
  refine bodyPost_ret (v := .agg #[.int .i64 k, .string S]) (by simp only [results, Try.results31]; simp [go_sem, k0', k1']) rfl ⟨⟨⟨k, bs S⟩, by rw [sb_bs], hti⟩, ?_⟩
  have := Hb3.out
  go_grown
end Go.Proofs.Ytgicldokglpimaa
