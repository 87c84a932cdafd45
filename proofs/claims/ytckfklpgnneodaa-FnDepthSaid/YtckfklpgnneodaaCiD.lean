/- The draws of circuits that the laws of the eleventh chapter take. -/
import Derived.Test.YtckfklpgnneodaaCiB
import Derived.Test.YtckfklpgnneodaaBaseB11
namespace Go.Proofs.Ytckfklpgnneodaa
open Go.RowKit
theorem CiD.of_right {m n : Nat} {l : List Gt} (h1 : 1 ≤ n) (h4 : n ≤ 4) (hl : l.length ≤ m) (hm : m ≤ 12) (hb : ∀ g ∈ l, GtBd g) : CiD m (n : Int) l :=
  ⟨by omega, by omega, fun g hg => (hb g hg).i, by have := hs_le l; omega⟩
attribute [local irreducible] World.cell?
set_option maxRecDepth 100000 in
set_option maxHeartbeats 6400000 in
theorem drawConcatCircuits (a0 : Option Addr) (len cap : Nat) (w : World) (hcode : CodeAt w w.heap.size a0 len) :
    Calls Try.prog 11 #[.slice a0 len cap] w fun e w' => (∃ n m u v L M, e = .returned (.tuple #[.agg #[.int .i64 n, u], .agg #[.int .i64 m, v]]) ∧ CiD 8 n L ∧ CiD 8 m M ∧ gtE.Sl w' w.heap.size u L ∧ gtE.Sl w' w.heap.size v M) ∧ Below w.heap.size w w' := by
  have hb0 : Below w.heap.size w ((w.alloc (.cells #[.int .i64 0, .slice none 0 0] 26)).alloc (.cells #[.int .i64 0, .slice none 0 0] 26)) := by go_grown
  have hz0 : ((w.alloc (.cells #[.int .i64 0, .slice none 0 0] 26)).alloc (.cells #[.int .i64 0, .slice none 0 0] 26)).heap.size = w.heap.size + 2 := by simp
  have Hcode := Lib.hid (show CodeAt ((w.alloc (.cells #[.int .i64 0, .slice none 0 0] 26)).alloc (.cells #[.int .i64 0, .slice none 0 0] 26)) ((w.alloc (.cells #[.int .i64 0, .slice none 0 0] 26)).alloc (.cells #[.int .i64 0, .slice none 0 0] 26)).heap.size a0 len from (hcode.below hb0).mono (by omega))
  have Hra := Lib.hid (alloc_blk (.cells #[.int .i64 0, .slice none 0 0] 26) (heap_alloc_new w (.cells #[.int .i64 0, .slice none 0 0] 26)))
  have Hrb := Lib.hid (show ((w.alloc (.cells #[.int .i64 0, .slice none 0 0] 26)).alloc (.cells #[.int .i64 0, .slice none 0 0] 26)).heap[w.heap.size + 1]? = some (.cells #[.int .i64 0, .slice none 0 0] 26 (0, 0)) by
    simpa using heap_alloc_new (w.alloc (.cells #[.int .i64 0, .slice none 0 0] 26)) (.cells #[.int .i64 0, .slice none 0 0] 26))
  have Hb0 := Lib.hid hb0
  clear hcode hb0
  go_enter Try.func11, Try.ntmps11
  go_wp2_with fail
  refine (new_any a0 len cap _ Hcode.out).mono ?_
  rintro e w1 ⟨rfl, hc1, hb1, hz1⟩
  rw [hz0] at hc1 hz1
  have Hra := Lib.hid (below_blk hb1 (lt_of_block Hra.out) Hra.out)
  have Hrb := Lib.hid (below_blk hb1 (lt_of_block Hrb.out) Hrb.out)
  have Hc1 := Lib.hid hc1
  have Hb1 := Lib.hid (below_nx Hb0.out hb1)
  have hs1 := hb1.size
  rw [hz0] at hs1
  clear hc1 hb1 Hb0
  go_wp2_with fail
  refine (below_any (w.heap.size + 2) 3 _ Hc1.out (by omega) (by omega)).mono ?_
  rintro e w2 ⟨⟨x, x0, x1, rfl⟩, hc2, ho2⟩
  obtain ⟨k, rfl⟩ : ∃ k : Nat, x = k := ⟨x.toNat, by omega⟩
  have hs2 := ho2.size
  have Hra := Lib.hid (own_blk ho2 (by omega) Hra.out)
  have Hrb := Lib.hid (own_blk ho2 (by omega) Hrb.out)
  have Hc2 := Lib.hid hc2
  have Hb2 := Lib.hid (below_own Hb1.out ho2 (by omega) (by omega))
  clear hc2 ho2 Hc1 Hb1
  go_wp2_with fail
  refine (once_any (w.heap.size + 2) 5 _ Hc2.out (by omega) (by omega)).mono ?_
  rintro e w3 ⟨⟨t, rfl⟩, hc3, ho3⟩
  have hs3 := ho3.size
  have Hra := Lib.hid (own_blk ho3 (by omega) Hra.out)
  have Hrb := Lib.hid (own_blk ho3 (by omega) Hrb.out)
  have Hc3 := Lib.hid hc3
  have Hb3 := Lib.hid (below_own Hb2.out ho3 (by omega) (by omega))
  clear hc3 ho3 Hc2 Hb2
  cases t with
  | true =>
    go_wp2_with fail
    refine (bentC (w.heap.size + 2) 8 w3 Hc3.out (by omega) (by omega)).mono ?_
    rintro e w4 ⟨⟨n1, u, L, rfl, hd1, hu⟩, hc4, ho4⟩
    obtain ⟨p, c, rfl, -, -⟩ := id hu
    have hs4 := ho4.size
    have Hra := Lib.hid (own_blk ho4 (by omega) Hra.out)
    have Hrb := Lib.hid (own_blk ho4 (by omega) Hrb.out)
    have Hb4 := Lib.hid (below_own Hb3.out ho4 (by omega) (by omega))
    have Hc4 := Lib.hid hc4
    have Hu := Lib.hid hu
    have Hd1 := Lib.hid hd1
    clear hd1
    clear hc4 ho4 Hc3 Hb3 hu
    go_wp2_with fail
    refine (bentC (w.heap.size + 2) 8 w4 Hc4.out (by omega) (by omega)).mono ?_
    rintro e w5 ⟨⟨n2, v, M, rfl, hd2, hv⟩, hc5, ho5⟩
    obtain ⟨p', c', rfl, -, -⟩ := id hv
    have hs5 := ho5.size
    have Hra := Lib.hid (own_blk ho5 (by omega) Hra.out)
    have Hrb := Lib.hid (own_blk ho5 (by omega) Hrb.out)
    have Hb5 := Lib.hid (below_own Hb4.out ho5 (by omega) (by omega))
    have Hu := Lib.hid (Hu.out.own ho5 (by omega))
    have Hv := Lib.hid hv
    have Hd2 := Lib.hid hd2
    clear hd2
    clear hc5 ho5 Hc4 Hb4 hv
    obtain ⟨r0, r1⟩ := blk_cells2 Hra.out
    obtain ⟨s0, s1⟩ := blk_cells2 Hrb.out
    have fR := fun o => free_at Hra.out o
    have fS := fun o => free_at Hrb.out o
    have hrl := lt_of_block Hra.out
    have hsl := lt_of_block Hrb.out
    go_wp2_with fail
    have HA := set2_at (u0 := .int .i64 n1) (u1 := .slice p L.length c) Hra.out
    have HB2 := set2_at (u0 := .int .i64 n2) (u1 := .slice p' M.length c') (set1_blk (o := 1) (u := .slice p L.length c) (show w.heap.size + 1 ≠ w.heap.size by omega) (set1_blk (o := 0) (u := .int .i64 n1) (show w.heap.size + 1 ≠ w.heap.size by omega) Hrb.out))
    have HA2 := set1_blk (o := 1) (u := .slice p' M.length c') (show w.heap.size ≠ w.heap.size + 1 by omega) (set1_blk (o := 0) (u := .int .i64 n2) (show w.heap.size ≠ w.heap.size + 1 by omega) HA)
    obtain ⟨k0, k1⟩ := blk_cells2 HA2
    obtain ⟨l0, l1⟩ := blk_cells2 HB2
    refine bodyPost_ret (v := .tuple #[.agg #[.int .i64 n1, .slice p L.length c], .agg #[.int .i64 n2, .slice p' M.length c']]) (by simp only [results, Try.results11]; simp [go_sem, k0, k1, l0, l1]) rfl ⟨⟨n1, n2, _, _, L, M, rfl, Hd1.out, Hd2.out, ?_, ?_⟩, ?_⟩
    · exact (sl_set1 (sl_set1 (sl_set1 (sl_set1 Hu.out (by omega)) (by omega)) (by omega)) (by omega)).mono (by omega)
    · exact (sl_set1 (sl_set1 (sl_set1 (sl_set1 Hv.out (by omega)) (by omega)) (by omega)) (by omega)).mono (by omega)
    · have := Hb5.out
      go_grown
  | false =>
    have HRT := Lib.hid (fun W h1 h2 => right_any (w.heap.size + 2) (1 + k) 8 W h1 h2 (by omega) (by omega) (by omega))
    rw [show ((1 + k : Nat) : Int) = 1 + (k : Int) by simp] at HRT
    obtain ⟨n1, hn1⟩ : ∃ n1 : Int, n1 = 1 + (k : Int) := ⟨_, rfl⟩
    go_wp2_with fail
    refine (HRT.out w3 Hc3.out (by omega)).mono ?_
    rintro e w4 ⟨⟨u, L, rfl, hl1, hg1, hu⟩, hc4, ho4⟩
    obtain ⟨p, c, rfl, -, -⟩ := id hu
    have hs4 := ho4.size
    have Hra := Lib.hid (own_blk ho4 (by omega) Hra.out)
    have Hrb := Lib.hid (own_blk ho4 (by omega) Hrb.out)
    have Hb4 := Lib.hid (below_own Hb3.out ho4 (by omega) (by omega))
    have Hc4 := Lib.hid hc4
    have Hu := Lib.hid hu
    have Hd1 := Lib.hid (show CiD 8 n1 L by rw [hn1]; exact CiD.of_right (n := 1 + k) (by omega) (by omega) hl1 (by omega) hg1)
    clear hl1 hg1
    clear hc4 ho4 Hc3 Hb3 hu
    go_wp2_with fail
    refine (HRT.out w4 Hc4.out (by omega)).mono ?_
    rintro e w5 ⟨⟨v, M, rfl, hl2, hg2, hv⟩, hc5, ho5⟩
    obtain ⟨p', c', rfl, -, -⟩ := id hv
    have hs5 := ho5.size
    have Hra := Lib.hid (own_blk ho5 (by omega) Hra.out)
    have Hrb := Lib.hid (own_blk ho5 (by omega) Hrb.out)
    have Hb5 := Lib.hid (below_own Hb4.out ho5 (by omega) (by omega))
    have Hu := Lib.hid (Hu.out.own ho5 (by omega))
    have Hv := Lib.hid hv
    have Hd2 := Lib.hid (show CiD 8 n1 M by rw [hn1]; exact CiD.of_right (n := 1 + k) (by omega) (by omega) hl2 (by omega) hg2)
    clear hl2 hg2
    clear hc5 ho5 Hc4 Hb4 hv
    obtain ⟨r0, r1⟩ := blk_cells2 Hra.out
    obtain ⟨s0, s1⟩ := blk_cells2 Hrb.out
    have fR := fun o => free_at Hra.out o
    have fS := fun o => free_at Hrb.out o
    have hrl := lt_of_block Hra.out
    have hsl := lt_of_block Hrb.out
    go_wp2_with fail
    rw [← hn1]
    have HA := set2_at (u0 := .int .i64 n1) (u1 := .slice p L.length c) Hra.out
    have HB2 := set2_at (u0 := .int .i64 n1) (u1 := .slice p' M.length c') (set1_blk (o := 1) (u := .slice p L.length c) (show w.heap.size + 1 ≠ w.heap.size by omega) (set1_blk (o := 0) (u := .int .i64 n1) (show w.heap.size + 1 ≠ w.heap.size by omega) Hrb.out))
    have HA2 := set1_blk (o := 1) (u := .slice p' M.length c') (show w.heap.size ≠ w.heap.size + 1 by omega) (set1_blk (o := 0) (u := .int .i64 n1) (show w.heap.size ≠ w.heap.size + 1 by omega) HA)
    obtain ⟨k0, k1⟩ := blk_cells2 HA2
    obtain ⟨l0, l1⟩ := blk_cells2 HB2
    refine bodyPost_ret (v := .tuple #[.agg #[.int .i64 n1, .slice p L.length c], .agg #[.int .i64 n1, .slice p' M.length c']]) (by simp only [results, Try.results11]; simp [go_sem, k0, k1, l0, l1]) rfl ⟨⟨n1, n1, _, _, L, M, rfl, Hd1.out, Hd2.out, ?_, ?_⟩, ?_⟩
    · exact (sl_set1 (sl_set1 (sl_set1 (sl_set1 Hu.out (by omega)) (by omega)) (by omega)) (by omega)).mono (by omega)
    · exact (sl_set1 (sl_set1 (sl_set1 (sl_set1 Hv.out (by omega)) (by omega)) (by omega)) (by omega)).mono (by omega)
    · have := Hb5.out
      go_grown
end Go.Proofs.Ytckfklpgnneodaa
