/- Chapter 5 of the program: phases and the squared norm. -/
import Derived.Test.YtnbmjbnmkbgmaaaDwP
import Derived.Test.YtnbmjbnmkbgmaaaPhT
import Derived.Test.YtnbmjbnmkbgmaaaDwR
import Derived.Laws.BitsLemmas
namespace Go.Proofs.Ytnbmjbnmkbgmaaa
open Go.RowKit
attribute [local irreducible] World.cell?
set_option maxRecDepth 100000 in
set_option maxHeartbeats 1600000 in
theorem ireal (x : Dw) (w : World) (h : EB x) :
    Calls Try.prog 22 #[(.agg #[.int .i64 x.n.a, .int .i64 x.n.b, .int .i64 x.n.c, .int .i64 x.n.d, .int .i64 x.e])] w fun e w' => e = .returned (.bool (reB x)) ∧ Below w.heap.size w w' := by
  have Hv := Lib.hid (fun w => ivalidD x w h.1 h.2)
  clear h
  by_cases h : x.ok
  · rw [okD_true.2 h] at Hv
    obtain ⟨b0, b1⟩ := h.1.2.1
    have hr : reB x = (decide (x.n.c = 0) && decide (x.n.d = -x.n.b)) := by
      rw [Bool.eq_iff_iff]; simp [reB, h]
    rw [hr]
    clear hr h
    have Hr0_0 := Lib.hid (heap_alloc_new w (.cells #[.int .i64 x.n.a, .int .i64 x.n.b, .int .i64 x.n.c, .int .i64 x.n.d, .int .i64 x.e] 29))
    go_enter Try.func22, Try.ntmps22
    go_wp2_with fail
    refine (Hv.out _).mono ?_
    rintro e w1 ⟨rfl, hb1⟩
    have hr0 := below_blk hb1 (lt_of_block Hr0_0.out) Hr0_0.out
    have zg0 := lt_of_block hr0
    obtain ⟨c0_0, c0_1, c0_2, c0_3, c0_4⟩ := blk_cells5 hr0
    have Hr1_0 := Lib.hid hr0
    have hb1 := below_up (B := w.heap.size) (w := w) (by go_grown) hb1 (by simp <;> omega)
    have Hp1 := Lib.hid hb1
    have Hb1 := Lib.hid hb1
    clear hr0
    clear hb1
    by_cases hc : x.n.c = 0
    · by_cases hd : x.n.d = -x.n.b
      · go_wp2_with fail
        go_returns
        exact ⟨by simp [hc, hd], by have := Hp1.out; go_grown⟩
      · go_wp2_with fail
        go_returns
        exact ⟨by simp [hc, hd], by have := Hp1.out; go_grown⟩
    · go_wp2_with fail
      go_returns
      exact ⟨by simp [hc], by have := Hp1.out; go_grown⟩
  · rw [okD_false.2 h] at Hv
    rw [show reB x = false by simp [reB, h]]
    clear h
    have Hr0_0 := Lib.hid (heap_alloc_new w (.cells #[.int .i64 x.n.a, .int .i64 x.n.b, .int .i64 x.n.c, .int .i64 x.n.d, .int .i64 x.e] 29))
    go_enter Try.func22, Try.ntmps22
    go_wp2_with fail
    refine (Hv.out _).mono ?_
    rintro e w1 ⟨rfl, hb1⟩
    have hr0 := below_blk hb1 (lt_of_block Hr0_0.out) Hr0_0.out
    have zg0 := lt_of_block hr0
    obtain ⟨c0_0, c0_1, c0_2, c0_3, c0_4⟩ := blk_cells5 hr0
    have Hr1_0 := Lib.hid hr0
    have hb1 := below_up (B := w.heap.size) (w := w) (by go_grown) hb1 (by simp <;> omega)
    have Hp1 := Lib.hid hb1
    have Hb1 := Lib.hid hb1
    clear hr0
    clear hb1
    go_wp2_with fail
    go_returns
    exact ⟨rfl, by have := Hp1.out; go_grown⟩
set_option maxRecDepth 100000 in
set_option maxHeartbeats 3200000 in
theorem inorm (x : Dw) (w : World) (h : EB x) :
    Calls Try.prog 20 #[(.agg #[.int .i64 x.n.a, .int .i64 x.n.b, .int .i64 x.n.c, .int .i64 x.n.d, .int .i64 x.e])] w fun e w' => e = .returned (.tuple #[(.agg #[.int .i64 (nsV x).n.a, .int .i64 (nsV x).n.b, .int .i64 (nsV x).n.c, .int .i64 (nsV x).n.d, .int .i64 (nsV x).e]), .bool (nsB x)]) ∧ Below w.heap.size w w' := by
  have Hc := Lib.hid (fun w => iconjD_any x w h.1 h.2)
  have Hm := Lib.hid (fun w => imulD_any x (dConjV x) w h.1 h.2 (eb_conj x).1 (eb_conj x).2)
  clear h
  unfold nsV nsB
  generalize dMulV x (dConjV x) = R at *
  generalize dMulB x (dConjV x) = T at *
  generalize dConjV x = c at *
  have Hr0_0 := Lib.hid (alloc_blk (.cells #[.int .i64 0, .int .i64 0, .int .i64 0, .int .i64 0, .int .i64 0] 29) (heap_alloc_new w (.cells #[.int .i64 x.n.a, .int .i64 x.n.b, .int .i64 x.n.c, .int .i64 x.n.d, .int .i64 x.e] 29)))
  have Hr0_1 := Lib.hid (show ((w.alloc (.cells #[.int .i64 x.n.a, .int .i64 x.n.b, .int .i64 x.n.c, .int .i64 x.n.d, .int .i64 x.e] 29)).alloc (.cells #[.int .i64 0, .int .i64 0, .int .i64 0, .int .i64 0, .int .i64 0] 29)).heap[w.heap.size + 1]? = some (.cells #[.int .i64 0, .int .i64 0, .int .i64 0, .int .i64 0, .int .i64 0] 29 (0, 0)) from by simpa using heap_alloc_new (w.alloc (.cells #[.int .i64 x.n.a, .int .i64 x.n.b, .int .i64 x.n.c, .int .i64 x.n.d, .int .i64 x.e] 29)) (.cells #[.int .i64 0, .int .i64 0, .int .i64 0, .int .i64 0, .int .i64 0] 29))
  have HbE := Lib.hid (show Below w.heap.size w ((w.alloc (.cells #[.int .i64 x.n.a, .int .i64 x.n.b, .int .i64 x.n.c, .int .i64 x.n.d, .int .i64 x.e] 29)).alloc (.cells #[.int .i64 0, .int .i64 0, .int .i64 0, .int .i64 0, .int .i64 0] 29)) by go_grown)
  go_enter Try.func20, Try.ntmps20
  go_upto_region 1 with fail
  go_region_with (first | (go_at_call 36; refine (Hc.out _).mono ?_; rintro e w1 ⟨rfl, hb1⟩; have hr0 := below_blk hb1 (lt_of_block Hr0_0.out) Hr0_0.out; have hr1 := below_blk hb1 (lt_of_block Hr0_1.out) Hr0_1.out; have zg10 := lt_of_block hr0; have zg11 := lt_of_block hr1; obtain ⟨c10, c11, c12, c13, c14⟩ := blk_cells5 hr0; obtain ⟨d10, d11, d12, d13, d14⟩ := blk_cells5 hr1; have f1 := fun o => free_at hr1 o; have Hr1_0 := Lib.hid hr0; have Hr1_1 := Lib.hid hr1; have Hb1 := Lib.hid (below_nx HbE.out.drew hb1); clear hb1 hr0 hr1) | (go_at_call 13; refine (Hm.out _).mono ?_; rintro e w2 ⟨rfl, hb2⟩; have hr0 := below_blk hb2 (lt_of_block Hr1_0.out) Hr1_0.out; have hr1 := below_blk hb2 (lt_of_block Hr1_1.out) Hr1_1.out; have zg20 := lt_of_block hr0; have zg21 := lt_of_block hr1; obtain ⟨c20, c21, c22, c23, c24⟩ := blk_cells5 hr0; obtain ⟨d20, d21, d22, d23, d24⟩ := blk_cells5 hr1; have f2 := fun o => free_at hr1 o; have Hr2_0 := Lib.hid hr0; have Hr2_1 := Lib.hid hr1; have Hb2 := Lib.hid (below_nx Hb1.out hb2); clear hb2 hr0 hr1))
  all_goals go_wp2_with fail
  all_goals
    obtain ⟨k0, k1, k2, k3, k4⟩ := blk_cells5 (set5_at (u0 := .int .i64 R.n.a) (u1 := .int .i64 R.n.b) (u2 := .int .i64 R.n.c) (u3 := .int .i64 R.n.d) (u4 := .int .i64 R.e) Hr2_1.out)
    refine bodyPost_ret (v := .tuple #[(.agg #[.int .i64 R.n.a, .int .i64 R.n.b, .int .i64 R.n.c, .int .i64 R.n.d, .int .i64 R.e]), .bool T]) (by simp only [results, Try.results20]; simp [go_sem, k0, k1, k2, k3, k4]) rfl ⟨rfl, ?_⟩
    have := Hb2.out
    go_grown
theorem and7 (n : Int) : bits .and .i64 n 7 = n % 8 := by
  have h7 : (BitVec.ofInt 64 7).toNat = 2 ^ 3 - 1 := by decide
  have key : (BitVec.ofInt 64 n &&& BitVec.ofInt 64 7).toNat = (n % ((2 ^ 64 : Nat) : Int)).toNat % 2 ^ 3 := by
    rw [BitVec.toNat_and, BitVec.toNat_ofInt, h7, Nat.and_two_pow_sub_one_eq_mod]
  show IntKind.i64.wrap ((BitVec.ofInt 64 n &&& BitVec.ofInt 64 7).toNat : Nat) = n % 8
  rw [key, IntKind.wrap_i64]
  omega
set_option maxRecDepth 100000 in
set_option maxHeartbeats 3200000 in
theorem iphase_at (i : Int) (n : Nat) (w : World) (ht : i % 8 = n) :
    Calls Try.prog 11 #[.int .i64 i] w fun e w' => e = .returned (.agg #[.int .i64 (Dw.mk (phN n) 0).n.a, .int .i64 (Dw.mk (phN n) 0).n.b, .int .i64 (Dw.mk (phN n) 0).n.c, .int .i64 (Dw.mk (phN n) 0).n.d, .int .i64 (Dw.mk (phN n) 0).e]) ∧ Below w.heap.size w w' := by
  have hn : n < 8 := by omega
  have Ht := (and7 i).trans ht
  rcases (show n = 0 ∨ n = 1 ∨ n = 2 ∨ n = 3 ∨ n = 4 ∨ n = 5 ∨ n = 6 ∨ n = 7 by omega) with rfl | rfl | rfl | rfl | rfl | rfl | rfl | rfl
  · clear hn
    go_enter Try.func11, Try.ntmps11
    go_wp2_with (go_at_call 25; go_in)
    refine bodyPost_ret (v := (.agg #[.int .i64 (Dw.mk (phN 0) 0).n.a, .int .i64 (Dw.mk (phN 0) 0).n.b, .int .i64 (Dw.mk (phN 0) 0).n.c, .int .i64 (Dw.mk (phN 0) 0).n.d, .int .i64 (Dw.mk (phN 0) 0).e])) (by simp [results, Try.results11, go_sem, phN, phL]) rfl ⟨rfl, ?_⟩
    go_grown
  · clear hn
    go_enter Try.func11, Try.ntmps11
    go_wp2_with (go_at_call 25; go_in)
    refine bodyPost_ret (v := (.agg #[.int .i64 (Dw.mk (phN 1) 0).n.a, .int .i64 (Dw.mk (phN 1) 0).n.b, .int .i64 (Dw.mk (phN 1) 0).n.c, .int .i64 (Dw.mk (phN 1) 0).n.d, .int .i64 (Dw.mk (phN 1) 0).e])) (by simp [results, Try.results11, go_sem, phN, phL]) rfl ⟨rfl, ?_⟩
    go_grown
  · clear hn
    go_enter Try.func11, Try.ntmps11
    go_wp2_with (go_at_call 25; go_in)
    refine bodyPost_ret (v := (.agg #[.int .i64 (Dw.mk (phN 2) 0).n.a, .int .i64 (Dw.mk (phN 2) 0).n.b, .int .i64 (Dw.mk (phN 2) 0).n.c, .int .i64 (Dw.mk (phN 2) 0).n.d, .int .i64 (Dw.mk (phN 2) 0).e])) (by simp [results, Try.results11, go_sem, phN, phL]) rfl ⟨rfl, ?_⟩
    go_grown
  · clear hn
    go_enter Try.func11, Try.ntmps11
    go_wp2_with (go_at_call 25; go_in)
    refine bodyPost_ret (v := (.agg #[.int .i64 (Dw.mk (phN 3) 0).n.a, .int .i64 (Dw.mk (phN 3) 0).n.b, .int .i64 (Dw.mk (phN 3) 0).n.c, .int .i64 (Dw.mk (phN 3) 0).n.d, .int .i64 (Dw.mk (phN 3) 0).e])) (by simp [results, Try.results11, go_sem, phN, phL]) rfl ⟨rfl, ?_⟩
    go_grown
  · clear hn
    go_enter Try.func11, Try.ntmps11
    go_wp2_with (go_at_call 25; go_in)
    refine bodyPost_ret (v := (.agg #[.int .i64 (Dw.mk (phN 4) 0).n.a, .int .i64 (Dw.mk (phN 4) 0).n.b, .int .i64 (Dw.mk (phN 4) 0).n.c, .int .i64 (Dw.mk (phN 4) 0).n.d, .int .i64 (Dw.mk (phN 4) 0).e])) (by simp [results, Try.results11, go_sem, phN, phL]) rfl ⟨rfl, ?_⟩
    go_grown
  · clear hn
    go_enter Try.func11, Try.ntmps11
    go_wp2_with (go_at_call 25; go_in)
    refine bodyPost_ret (v := (.agg #[.int .i64 (Dw.mk (phN 5) 0).n.a, .int .i64 (Dw.mk (phN 5) 0).n.b, .int .i64 (Dw.mk (phN 5) 0).n.c, .int .i64 (Dw.mk (phN 5) 0).n.d, .int .i64 (Dw.mk (phN 5) 0).e])) (by simp [results, Try.results11, go_sem, phN, phL]) rfl ⟨rfl, ?_⟩
    go_grown
  · clear hn
    go_enter Try.func11, Try.ntmps11
    go_wp2_with (go_at_call 25; go_in)
    refine bodyPost_ret (v := (.agg #[.int .i64 (Dw.mk (phN 6) 0).n.a, .int .i64 (Dw.mk (phN 6) 0).n.b, .int .i64 (Dw.mk (phN 6) 0).n.c, .int .i64 (Dw.mk (phN 6) 0).n.d, .int .i64 (Dw.mk (phN 6) 0).e])) (by simp [results, Try.results11, go_sem, phN, phL]) rfl ⟨rfl, ?_⟩
    go_grown
  · clear hn
    go_enter Try.func11, Try.ntmps11
    go_wp2_with (go_at_call 25; go_in)
    refine bodyPost_ret (v := (.agg #[.int .i64 (Dw.mk (phN 7) 0).n.a, .int .i64 (Dw.mk (phN 7) 0).n.b, .int .i64 (Dw.mk (phN 7) 0).n.c, .int .i64 (Dw.mk (phN 7) 0).n.d, .int .i64 (Dw.mk (phN 7) 0).e])) (by simp [results, Try.results11, go_sem, phN, phL]) rfl ⟨rfl, ?_⟩
    go_grown
theorem iphase (i : Int) (w : World) (_ : -9223372036854775808 ≤ i) (_ : i ≤ 9223372036854775807) :
    Calls Try.prog 11 #[.int .i64 i] w fun e w' => e = .returned (.agg #[.int .i64 (dPh i).n.a, .int .i64 (dPh i).n.b, .int .i64 (dPh i).n.c, .int .i64 (dPh i).n.d, .int .i64 (dPh i).e]) ∧ Below w.heap.size w w' := iphase_at i (i % 8).toNat w (by omega)
set_option maxRecDepth 100000 in
set_option maxHeartbeats 3200000 in
theorem iexpo (x : Dw) (w : World) (_ : EB x) :
    Calls Try.prog 12 #[(.agg #[.int .i64 x.n.a, .int .i64 x.n.b, .int .i64 x.n.c, .int .i64 x.n.d, .int .i64 x.e])] w fun e w' => e = .returned (.tuple #[.int .i64 (phEV x), .bool (phEB x)]) ∧ Below w.heap.size w w' := by
  have Hr0 := Lib.hid (heap_alloc_new w (.cells #[.int .i64 x.n.a, .int .i64 x.n.b, .int .i64 x.n.c, .int .i64 x.n.d, .int .i64 x.e] 29))
  go_enter Try.func12, Try.ntmps12
  go_wp2_with fail
  go_loopw [5] (fun s4 wr => ∃ k : Nat, s4 = .int .i64 k ∧ k ≤ 8 ∧ (∀ j : Nat, j < k → eqDB (dPh (j : Int)) x = false) ∧ wr.heap[w.heap.size]? = some (.cells #[.int .i64 x.n.a, .int .i64 x.n.b, .int .i64 x.n.c, .int .i64 x.n.d, .int .i64 x.e] 29 (0, 0)) ∧ Below w.heap.size w wr) (fun s4 _ => 8 - (intOf s4).toNat)
  case atStart => exact ⟨0, rfl, Nat.zero_le _, fun j h => absurd h (by omega), Hr0.out, by go_grown⟩
  case round =>
    obtain ⟨k, rfl, hk, hno, hb0, hbl⟩ := hrel
    have Hno := Lib.hid hno
    have Hb0 := Lib.hid hb0
    have Hbl := Lib.hid hbl
    have zg0 := lt_of_block hb0
    obtain ⟨c0, c1, c2, c3, c4⟩ := blk_cells5 hb0
    clear hno hb0 hbl
    by_cases hlt : k < 8
    · have hd : decide ((k : Int) < 8) = true := decide_eq_true (by omega)
      have Hp := Lib.hid (fun w => iphase (k : Int) w (by omega) (by omega))
      have Heq := eqD (dPh (k : Int)) x
      generalize hq : eqDB (dPh (k : Int)) x = q at *
      have Hq := Lib.hid hq
      clear hq
      generalize dPh (k : Int) = P at Hp Heq
      go_upto_region 4 with fail
      go_region_with (first | (go_at_call 11; refine (Hp.out _).mono ?_; rintro e w1 ⟨rfl, hb1⟩; have hr0 := below_blk hb1 (lt_of_block Hb0.out) Hb0.out; have zg1 := lt_of_block hr0; obtain ⟨d0, d1, d2, d3, d4⟩ := blk_cells5 hr0; have Hb01 := Lib.hid hr0; have Hbl1 := Lib.hid (below_nx Hbl.out.drew hb1); clear hb1 hr0))
      all_goals
        cases q
        · go_wp2_with fail
          go_roundw
          case rel => exact ⟨k + 1, by go_num, by omega, fun j hj => by
            by_cases e : j = k
            · subst e; exact Hq.out
            · exact Hno.out j (by omega), Hb01.out, Hbl1.out⟩
          case measure => simp [intOf]; omega
        · have Hf := Lib.hid (phF_hit hlt Hno.out Hq.out)
          go_wp2_with fail
          go_returns
          exact ⟨by rw [phEV, phEB, Hf.out]; rfl, Hbl1.out⟩
    · obtain rfl : k = 8 := by omega
      have Hf := Lib.hid (phF_miss Hno.out)
      go_wp2_with fail
      go_returns
      exact ⟨by rw [phEV, phEB, Hf.out]; rfl, Hbl.out⟩
end Go.Proofs.Ytnbmjbnmkbgmaaa
