/- Chapter 5 of the model: phases, the squared norm, signs; the powers of the root of one half. -/
import Derived.Test.YtnbmjbnmkbgmaaaPhM
import Derived.Test.YtnbmjbnmkbgmaaaDwB
import Derived.Test.YtnbmjbnmkbgmaaaDwN
import Derived.Test.YtnbmjbnmkbgmaaaDwY
namespace Go.Proofs.Ytnbmjbnmkbgmaaa
open Go.RowKit
theorem phF_hit {x : Dw} {k : Nat} (hk : k < 8) (h : ∀ j : Nat, j < k → eqDB (dPh (j : Int)) x = false) (hh : eqDB (dPh (k : Int)) x = true) : phF x = some k := by
  unfold phF
  rw [show List.range 8 = [0, 1, 2, 3, 4, 5, 6, 7] from rfl]
  rcases (show k = 0 ∨ k = 1 ∨ k = 2 ∨ k = 3 ∨ k = 4 ∨ k = 5 ∨ k = 6 ∨ k = 7 by omega) with rfl | rfl | rfl | rfl | rfl | rfl | rfl | rfl
  · simp only [List.find?, hh]
  · simp only [List.find?, h 0 (by omega), hh]
  · simp only [List.find?, h 0 (by omega), h 1 (by omega), hh]
  · simp only [List.find?, h 0 (by omega), h 1 (by omega), h 2 (by omega), hh]
  · simp only [List.find?, h 0 (by omega), h 1 (by omega), h 2 (by omega), h 3 (by omega), hh]
  · simp only [List.find?, h 0 (by omega), h 1 (by omega), h 2 (by omega), h 3 (by omega), h 4 (by omega), hh]
  · simp only [List.find?, h 0 (by omega), h 1 (by omega), h 2 (by omega), h 3 (by omega), h 4 (by omega), h 5 (by omega), hh]
  · simp only [List.find?, h 0 (by omega), h 1 (by omega), h 2 (by omega), h 3 (by omega), h 4 (by omega), h 5 (by omega), h 6 (by omega), hh]
theorem phF_miss {x : Dw} (h : ∀ j : Nat, j < 8 → eqDB (dPh (j : Int)) x = false) : phF x = none := by
  unfold phF
  rw [List.find?_eq_none]
  intro j hj
  rw [h j (List.mem_range.1 hj)]
  decide
attribute [local irreducible] World.cell?
set_option maxRecDepth 100000 in
set_option maxHeartbeats 1600000 in
theorem sreal (x : Dw) (w : World) :
    Calls Try.prog 21 #[(.agg #[.int .i64 x.n.a, .int .i64 x.n.b, .int .i64 x.n.c, .int .i64 x.n.d, .int .i64 x.e])] w fun e w' => e = .returned (.bool (reB x)) ∧ Below w.heap.size w w' := by
  have Hv := Lib.hid (svalidD x)
  by_cases h : x.ok
  · rw [okD_true.2 h] at Hv
    obtain ⟨b0, b1⟩ := h.1.2.1
    have hr : reB x = (decide (x.n.c = 0) && decide (x.n.d = -x.n.b)) := by
      rw [Bool.eq_iff_iff]; simp [reB, h]
    rw [hr]
    clear hr h
    have Hr0_0 := Lib.hid (heap_alloc_new w (.cells #[.int .i64 x.n.a, .int .i64 x.n.b, .int .i64 x.n.c, .int .i64 x.n.d, .int .i64 x.e] 29))
    go_enter Try.func21, Try.ntmps21
    go_wp2_with fail
    refine (Hv.out _).mono ?_
    rintro e w1 ⟨rfl, hb1⟩
    have hr0 := below_blk hb1 (lt_of_block Hr0_0.out) Hr0_0.out
    have zg0 := lt_of_block hr0
    obtain ⟨c0_0, c0_1, c0_2, c0_3, c0_4⟩ := blk_cells5 hr0
    have Hr1_0 := Lib.hid hr0
    have hb1 := below_up (B := w.heap.size) (w := w) (by go_grown) hb1 (by simp <;> omega)
    have Hp1 := Lib.hid hb1
    have Hb1 := Lib.hid hb1
    clear hr0
    clear hb1
    by_cases hc : x.n.c = 0
    · by_cases hd : x.n.d = -x.n.b
      · go_wp2_with fail
        go_returns
        exact ⟨by simp [hc, hd], by have := Hp1.out; go_grown⟩
      · go_wp2_with fail
        go_returns
        exact ⟨by simp [hc, hd], by have := Hp1.out; go_grown⟩
    · go_wp2_with fail
      go_returns
      exact ⟨by simp [hc], by have := Hp1.out; go_grown⟩
  · rw [okD_false.2 h] at Hv
    rw [show reB x = false by simp [reB, h]]
    clear h
    have Hr0_0 := Lib.hid (heap_alloc_new w (.cells #[.int .i64 x.n.a, .int .i64 x.n.b, .int .i64 x.n.c, .int .i64 x.n.d, .int .i64 x.e] 29))
    go_enter Try.func21, Try.ntmps21
    go_wp2_with fail
    refine (Hv.out _).mono ?_
    rintro e w1 ⟨rfl, hb1⟩
    have hr0 := below_blk hb1 (lt_of_block Hr0_0.out) Hr0_0.out
    have zg0 := lt_of_block hr0
    obtain ⟨c0_0, c0_1, c0_2, c0_3, c0_4⟩ := blk_cells5 hr0
    have Hr1_0 := Lib.hid hr0
    have hb1 := below_up (B := w.heap.size) (w := w) (by go_grown) hb1 (by simp <;> omega)
    have Hp1 := Lib.hid hb1
    have Hb1 := Lib.hid hb1
    clear hr0
    clear hb1
    go_wp2_with fail
    go_returns
    exact ⟨rfl, by have := Hp1.out; go_grown⟩
theorem sg_vals (n : Int) : sg n = 1 ∨ sg n = -1 ∨ sg n = 0 := by
  rcases (show 0 < n ∨ n < 0 ∨ n = 0 by omega) with h | h | h
  · exact .inl (sg_pos h)
  · exact .inr (.inl (sg_neg h))
  · subst h; exact .inr (.inr rfl)
theorem sg_mul (m n : Int) : -1 ≤ sg m * sg n ∧ sg m * sg n ≤ 1 := by
  rcases sg_vals m with h | h | h <;> rcases sg_vals n with k | k | k <;> rw [h, k] <;> decide
set_option maxRecDepth 100000 in
set_option maxHeartbeats 6400000 in
theorem sphase_at (i t : Int) (n : Nat) (w : World) (ht : i.tmod 8 = t) (hn : n < 8) (hc : t = n ∨ t = (n : Int) - 8) (hl : -8 < t) :
    Calls Try.prog 16 #[.int .i64 i] w fun e w' => e = .returned (.agg #[.int .i64 (Dw.mk (phN n) 0).n.a, .int .i64 (Dw.mk (phN n) 0).n.b, .int .i64 (Dw.mk (phN n) 0).n.c, .int .i64 (Dw.mk (phN n) 0).n.d, .int .i64 (Dw.mk (phN n) 0).e]) ∧ Below w.heap.size w w' := by
  rcases (show t = -7 ∨ t = -6 ∨ t = -5 ∨ t = -4 ∨ t = -3 ∨ t = -2 ∨ t = -1 ∨ t = 0 ∨ t = 1 ∨ t = 2 ∨ t = 3 ∨ t = 4 ∨ t = 5 ∨ t = 6 ∨ t = 7 by omega) with rfl | rfl | rfl | rfl | rfl | rfl | rfl | rfl | rfl | rfl | rfl | rfl | rfl | rfl | rfl
  · obtain rfl : n = 1 := by omega
    clear hn hc hl
    go_enter Try.func16, Try.ntmps16
    go_wp2_with fail
    refine bodyPost_ret (v := (.agg #[.int .i64 (Dw.mk (phN 1) 0).n.a, .int .i64 (Dw.mk (phN 1) 0).n.b, .int .i64 (Dw.mk (phN 1) 0).n.c, .int .i64 (Dw.mk (phN 1) 0).n.d, .int .i64 (Dw.mk (phN 1) 0).e])) (by simp [results, Try.results16, go_sem, phN, phL]) rfl ⟨rfl, ?_⟩
    go_grown
  · obtain rfl : n = 2 := by omega
    clear hn hc hl
    go_enter Try.func16, Try.ntmps16
    go_wp2_with fail
    refine bodyPost_ret (v := (.agg #[.int .i64 (Dw.mk (phN 2) 0).n.a, .int .i64 (Dw.mk (phN 2) 0).n.b, .int .i64 (Dw.mk (phN 2) 0).n.c, .int .i64 (Dw.mk (phN 2) 0).n.d, .int .i64 (Dw.mk (phN 2) 0).e])) (by simp [results, Try.results16, go_sem, phN, phL]) rfl ⟨rfl, ?_⟩
    go_grown
  · obtain rfl : n = 3 := by omega
    clear hn hc hl
    go_enter Try.func16, Try.ntmps16
    go_wp2_with fail
    refine bodyPost_ret (v := (.agg #[.int .i64 (Dw.mk (phN 3) 0).n.a, .int .i64 (Dw.mk (phN 3) 0).n.b, .int .i64 (Dw.mk (phN 3) 0).n.c, .int .i64 (Dw.mk (phN 3) 0).n.d, .int .i64 (Dw.mk (phN 3) 0).e])) (by simp [results, Try.results16, go_sem, phN, phL]) rfl ⟨rfl, ?_⟩
    go_grown
  · obtain rfl : n = 4 := by omega
    clear hn hc hl
    go_enter Try.func16, Try.ntmps16
    go_wp2_with fail
    refine bodyPost_ret (v := (.agg #[.int .i64 (Dw.mk (phN 4) 0).n.a, .int .i64 (Dw.mk (phN 4) 0).n.b, .int .i64 (Dw.mk (phN 4) 0).n.c, .int .i64 (Dw.mk (phN 4) 0).n.d, .int .i64 (Dw.mk (phN 4) 0).e])) (by simp [results, Try.results16, go_sem, phN, phL]) rfl ⟨rfl, ?_⟩
    go_grown
  · obtain rfl : n = 5 := by omega
    clear hn hc hl
    go_enter Try.func16, Try.ntmps16
    go_wp2_with fail
    refine bodyPost_ret (v := (.agg #[.int .i64 (Dw.mk (phN 5) 0).n.a, .int .i64 (Dw.mk (phN 5) 0).n.b, .int .i64 (Dw.mk (phN 5) 0).n.c, .int .i64 (Dw.mk (phN 5) 0).n.d, .int .i64 (Dw.mk (phN 5) 0).e])) (by simp [results, Try.results16, go_sem, phN, phL]) rfl ⟨rfl, ?_⟩
    go_grown
  · obtain rfl : n = 6 := by omega
    clear hn hc hl
    go_enter Try.func16, Try.ntmps16
    go_wp2_with fail
    refine bodyPost_ret (v := (.agg #[.int .i64 (Dw.mk (phN 6) 0).n.a, .int .i64 (Dw.mk (phN 6) 0).n.b, .int .i64 (Dw.mk (phN 6) 0).n.c, .int .i64 (Dw.mk (phN 6) 0).n.d, .int .i64 (Dw.mk (phN 6) 0).e])) (by simp [results, Try.results16, go_sem, phN, phL]) rfl ⟨rfl, ?_⟩
    go_grown
  · obtain rfl : n = 7 := by omega
    clear hn hc hl
    go_enter Try.func16, Try.ntmps16
    go_wp2_with fail
    refine bodyPost_ret (v := (.agg #[.int .i64 (Dw.mk (phN 7) 0).n.a, .int .i64 (Dw.mk (phN 7) 0).n.b, .int .i64 (Dw.mk (phN 7) 0).n.c, .int .i64 (Dw.mk (phN 7) 0).n.d, .int .i64 (Dw.mk (phN 7) 0).e])) (by simp [results, Try.results16, go_sem, phN, phL]) rfl ⟨rfl, ?_⟩
    go_grown
  · obtain rfl : n = 0 := by omega
    clear hn hc hl
    go_enter Try.func16, Try.ntmps16
    go_wp2_with fail
    refine bodyPost_ret (v := (.agg #[.int .i64 (Dw.mk (phN 0) 0).n.a, .int .i64 (Dw.mk (phN 0) 0).n.b, .int .i64 (Dw.mk (phN 0) 0).n.c, .int .i64 (Dw.mk (phN 0) 0).n.d, .int .i64 (Dw.mk (phN 0) 0).e])) (by simp [results, Try.results16, go_sem, phN, phL]) rfl ⟨rfl, ?_⟩
    go_grown
  · obtain rfl : n = 1 := by omega
    clear hn hc hl
    go_enter Try.func16, Try.ntmps16
    go_wp2_with fail
    refine bodyPost_ret (v := (.agg #[.int .i64 (Dw.mk (phN 1) 0).n.a, .int .i64 (Dw.mk (phN 1) 0).n.b, .int .i64 (Dw.mk (phN 1) 0).n.c, .int .i64 (Dw.mk (phN 1) 0).n.d, .int .i64 (Dw.mk (phN 1) 0).e])) (by simp [results, Try.results16, go_sem, phN, phL]) rfl ⟨rfl, ?_⟩
    go_grown
  · obtain rfl : n = 2 := by omega
    clear hn hc hl
    go_enter Try.func16, Try.ntmps16
    go_wp2_with fail
    refine bodyPost_ret (v := (.agg #[.int .i64 (Dw.mk (phN 2) 0).n.a, .int .i64 (Dw.mk (phN 2) 0).n.b, .int .i64 (Dw.mk (phN 2) 0).n.c, .int .i64 (Dw.mk (phN 2) 0).n.d, .int .i64 (Dw.mk (phN 2) 0).e])) (by simp [results, Try.results16, go_sem, phN, phL]) rfl ⟨rfl, ?_⟩
    go_grown
  · obtain rfl : n = 3 := by omega
    clear hn hc hl
    go_enter Try.func16, Try.ntmps16
    go_wp2_with fail
    refine bodyPost_ret (v := (.agg #[.int .i64 (Dw.mk (phN 3) 0).n.a, .int .i64 (Dw.mk (phN 3) 0).n.b, .int .i64 (Dw.mk (phN 3) 0).n.c, .int .i64 (Dw.mk (phN 3) 0).n.d, .int .i64 (Dw.mk (phN 3) 0).e])) (by simp [results, Try.results16, go_sem, phN, phL]) rfl ⟨rfl, ?_⟩
    go_grown
  · obtain rfl : n = 4 := by omega
    clear hn hc hl
    go_enter Try.func16, Try.ntmps16
    go_wp2_with fail
    refine bodyPost_ret (v := (.agg #[.int .i64 (Dw.mk (phN 4) 0).n.a, .int .i64 (Dw.mk (phN 4) 0).n.b, .int .i64 (Dw.mk (phN 4) 0).n.c, .int .i64 (Dw.mk (phN 4) 0).n.d, .int .i64 (Dw.mk (phN 4) 0).e])) (by simp [results, Try.results16, go_sem, phN, phL]) rfl ⟨rfl, ?_⟩
    go_grown
  · obtain rfl : n = 5 := by omega
    clear hn hc hl
    go_enter Try.func16, Try.ntmps16
    go_wp2_with fail
    refine bodyPost_ret (v := (.agg #[.int .i64 (Dw.mk (phN 5) 0).n.a, .int .i64 (Dw.mk (phN 5) 0).n.b, .int .i64 (Dw.mk (phN 5) 0).n.c, .int .i64 (Dw.mk (phN 5) 0).n.d, .int .i64 (Dw.mk (phN 5) 0).e])) (by simp [results, Try.results16, go_sem, phN, phL]) rfl ⟨rfl, ?_⟩
    go_grown
  · obtain rfl : n = 6 := by omega
    clear hn hc hl
    go_enter Try.func16, Try.ntmps16
    go_wp2_with fail
    refine bodyPost_ret (v := (.agg #[.int .i64 (Dw.mk (phN 6) 0).n.a, .int .i64 (Dw.mk (phN 6) 0).n.b, .int .i64 (Dw.mk (phN 6) 0).n.c, .int .i64 (Dw.mk (phN 6) 0).n.d, .int .i64 (Dw.mk (phN 6) 0).e])) (by simp [results, Try.results16, go_sem, phN, phL]) rfl ⟨rfl, ?_⟩
    go_grown
  · obtain rfl : n = 7 := by omega
    clear hn hc hl
    go_enter Try.func16, Try.ntmps16
    go_wp2_with fail
    refine bodyPost_ret (v := (.agg #[.int .i64 (Dw.mk (phN 7) 0).n.a, .int .i64 (Dw.mk (phN 7) 0).n.b, .int .i64 (Dw.mk (phN 7) 0).n.c, .int .i64 (Dw.mk (phN 7) 0).n.d, .int .i64 (Dw.mk (phN 7) 0).e])) (by simp [results, Try.results16, go_sem, phN, phL]) rfl ⟨rfl, ?_⟩
    go_grown
theorem tmod_eq (i : Int) : i.tmod 8 = (i % 8) ∨ i.tmod 8 = (i % 8) - 8 := by
  rcases (show 0 ≤ i ∨ i < 0 by omega) with h | h
  · exact .inl (Int.tmod_eq_emod_of_nonneg h)
  · obtain ⟨j, rfl⟩ : ∃ j, i = -j := ⟨-i, by omega⟩
    rw [Int.neg_tmod, Int.tmod_eq_emod_of_nonneg (by omega)]
    omega
theorem tmod_gt (i : Int) : -8 < i.tmod 8 := by
  rcases (show 0 ≤ i ∨ i < 0 by omega) with h | h
  · rw [Int.tmod_eq_emod_of_nonneg h]; omega
  · obtain ⟨j, rfl⟩ : ∃ j, i = -j := ⟨-i, by omega⟩
    rw [Int.neg_tmod, Int.tmod_eq_emod_of_nonneg (by omega)]
    omega
theorem sphase (i : Int) (w : World) :
    Calls Try.prog 16 #[.int .i64 i] w fun e w' => e = .returned (.agg #[.int .i64 (dPh i).n.a, .int .i64 (dPh i).n.b, .int .i64 (dPh i).n.c, .int .i64 (dPh i).n.d, .int .i64 (dPh i).e]) ∧ Below w.heap.size w w' := by
  refine sphase_at i _ (i % 8).toNat w rfl (res8 i) ?_ (tmod_gt i)
  have := tmod_eq i
  omega
set_option maxRecDepth 100000 in
set_option maxHeartbeats 3200000 in
theorem sexpo (x : Dw) (w : World) :
    Calls Try.prog 15 #[(.agg #[.int .i64 x.n.a, .int .i64 x.n.b, .int .i64 x.n.c, .int .i64 x.n.d, .int .i64 x.e])] w fun e w' => e = .returned (.tuple #[.int .i64 (phEV x), .bool (phEB x)]) ∧ Below w.heap.size w w' := by
  have Hr0 := Lib.hid (heap_alloc_new w (.cells #[.int .i64 x.n.a, .int .i64 x.n.b, .int .i64 x.n.c, .int .i64 x.n.d, .int .i64 x.e] 29))
  go_enter Try.func15, Try.ntmps15
  go_wp2_with fail
  go_loopw [4] (fun s4 wr => ∃ k : Nat, s4 = .int .i64 k ∧ k ≤ 8 ∧ (∀ j : Nat, j < k → eqDB (dPh (j : Int)) x = false) ∧ wr.heap[w.heap.size]? = some (.cells #[.int .i64 x.n.a, .int .i64 x.n.b, .int .i64 x.n.c, .int .i64 x.n.d, .int .i64 x.e] 29 (0, 0)) ∧ Below w.heap.size w wr) (fun s4 _ => 8 - (intOf s4).toNat)
  case atStart => exact ⟨0, rfl, Nat.zero_le _, fun j h => absurd h (by omega), Hr0.out, by go_grown⟩
  case round =>
    obtain ⟨k, rfl, hk, hno, hb0, hbl⟩ := hrel
    have Hno := Lib.hid hno
    have Hb0 := Lib.hid hb0
    have Hbl := Lib.hid hbl
    have zg0 := lt_of_block hb0
    obtain ⟨c0, c1, c2, c3, c4⟩ := blk_cells5 hb0
    clear hno hb0 hbl
    by_cases hlt : k < 8
    · have hd : decide ((k : Int) < 8) = true := decide_eq_true (by omega)
      have Hp := Lib.hid (sphase (k : Int))
      have Heq := eqD (dPh (k : Int)) x
      generalize hq : eqDB (dPh (k : Int)) x = q at *
      have Hq := Lib.hid hq
      clear hq
      generalize dPh (k : Int) = P at Hp Heq
      go_upto_region 4 with fail
      go_region_with (first | (go_at_call 16; refine (Hp.out _).mono ?_; rintro e w1 ⟨rfl, hb1⟩; have hr0 := below_blk hb1 (lt_of_block Hb0.out) Hb0.out; have zg1 := lt_of_block hr0; obtain ⟨d0, d1, d2, d3, d4⟩ := blk_cells5 hr0; have Hb01 := Lib.hid hr0; have Hbl1 := Lib.hid (below_nx Hbl.out.drew hb1); clear hb1 hr0))
      all_goals
        cases q
        · go_wp2_with fail
          go_roundw
          case rel => exact ⟨k + 1, by go_num, by omega, fun j hj => by
            by_cases e : j = k
            · subst e; exact Hq.out
            · exact Hno.out j (by omega), Hb01.out, Hbl1.out⟩
          case measure => simp [intOf]; omega
        · have Hf := Lib.hid (phF_hit hlt Hno.out Hq.out)
          go_wp2_with fail
          go_returns
          exact ⟨by rw [phEV, phEB, Hf.out]; rfl, Hbl1.out⟩
    · obtain rfl : k = 8 := by omega
      have Hf := Lib.hid (phF_miss Hno.out)
      go_wp2_with fail
      go_returns
      exact ⟨by rw [phEV, phEB, Hf.out]; rfl, Hbl.out⟩
end Go.Proofs.Ytnbmjbnmkbgmaaa
