/- The law FnBasis: basis states are orthonormal, at every code. No condition. -/
import Derived.Test.YtggjbpgibdpflaaBaseB02
import Derived.Test.YtggjbpgibdpflaaBaseB21
import Derived.Test.YtggjbpgibdpflaaBaseB06
import Derived.Test.YtggjbpgibdpflaaBaseB01
import Derived.Test.YtggjbpgibdpflaaDwS
import Derived.Lib.SmallJoins
import Derived.WalkKit
import Derived.ProofKit
import Derived.OpenShut
import Derived.Deep.DeepHandedRow
import Derived.Lib.LaidTab
import Derived.LaidMore
import Derived.LaidHandle
import Derived.Lay
import Derived.Stop.LaidErr
namespace Go.Proofs.Ytggjbpgibdpflaa.fnBasis
open Go.ChangeShapes Go.WideShapes Go.ChangeAt Go.RowKit Go.Lib
attribute [local irreducible] World.cell?
set_option maxRecDepth 100000 in
set_option maxHeartbeats 6400000 in
theorem core (a0 : Option Addr) (len cap : Nat) (hs : len ≤ 1048576) (_ : len ≤ cap) (w : World) (hcode : CodeAt w w.heap.size a0 len) :
    Calls Try.prog 15 #[.slice a0 len cap] w fun e w' => e = .returned (.bool true) ∧ Below w.heap.size w w' := by
  have Hc := Lib.hid hcode
  have Hb := Lib.hid (Below.refl w.heap.size w)
  clear hcode
  go_enter Try.func15, Try.ntmps15
  go_wp2_with (go_at_call 19; go_in)
  refine (drawBasis a0 len cap _ Hc.out).mono ?_
  rintro e w1 ⟨⟨n, i, rfl, n0, n1, i0, i1⟩, hb1⟩
  have Hb := Lib.hid (below_nx Hb.out hb1)
  clear hb1
  have Hi := Lib.hid (fun W => ibasis n i W (by omega) (by omega) (by omega) (by omega))
  have Hs := Lib.hid (sbasis n i)
  by_cases hc : 1 ≤ n ∧ n ≤ 4 ∧ 0 ≤ i ∧ i ≤ 2 ^ n.toNat - 1
  · obtain ⟨N, k0, hB, rfl, hk⟩ := bs_of hc
    rw [bs_list hB hk] at Hi Hs
    have Hkk := Lib.hid (fun (j : Nat) (hj : j < N) W => ibasis n j W (by omega) (by omega) (by have := (bs_st hB hj).2.2.2; omega) (by have := (bs_st hB hj).2.2.2; omega))
    have Hl := Lib.hid (fun (j : Nat) (hj : j < N) => bs_list (n := n) hB hj)
    have Hinn := Lib.hid (fun (j : Nat) (hj : j < N) => bs_inn (n := n) hB hj hk)
    have Hst := Lib.hid (fun (j : Nat) (hj : j < N) => bs_st (n := n) hB hj)
    obtain ⟨hst, hqc, hN0, hN⟩ := bs_st hB hk
    have hE := st_eb hst
    have hL := bst_len N k0
    have hLm : (bst N k0).length ≤ 1048576 := by omega
    have Hqu := Lib.hid (fun W B v (h : DSl W B v (bst N k0)) => iqubits B v _ W h hLm)
    have Hva := Lib.hid (fun W B v (h : DSl W B v (bst N k0)) => ivalidSt B v _ W h hE hLm)
    have Heq := Lib.hid (fun W B C v u (h : DSl W B v (bst N k0)) (h2 : DSl W C u (bst N k0)) => iequalSt B C v u _ _ W h h2 hLm hLm)
    have Hin := Lib.hid (fun (j : Nat) (hj : j < N) W B C v u (h : DSl W B v (bst N j)) (h2 : DSl W C u (bst N k0)) => iinner B C v u _ _ W h h2 (st_eb (Hst.out j hj).1) hE (by rw [bst_len]; omega) hLm)
    rw [hqc] at Hqu
    rw [hst] at Hva
    rw [decide_eq_true rfl] at Heq
    have hnq : (n == n) = true := beq_self_eq_true n
    clear hc hqc hst hB
    generalize hLL : bst N k0 = L at *
    go_wp2_with fail
    refine (Hi.out _).mono ?_
    rintro e w2 ⟨v, rfl, hd2, hb2⟩
    have Hv := Lib.hid hd2
    have Hb := Lib.hid (below_nx Hb.out hb2)
    clear hd2 hb2
    go_wp2_with fail
    refine (Hs.out _).mono ?_
    rintro e w3 ⟨v0, rfl, hd3, hb3⟩
    have Hv0 := Lib.hid hd3
    have Hv := Lib.hid (Hv.out.below hb3)
    have Hb := Lib.hid (below_nx Hb.out hb3)
    clear hd3 hb3
    go_wp2_with fail
    refine (sequal_self _ _ _ _ L _ Hv.out Hv0.out hLm).mono ?_
    rintro e w4 ⟨rfl, hb4⟩
    have Hv := Lib.hid (Hv.out.below hb4)
    have Hb := Lib.hid (below_nx Hb.out hb4)
    clear hb4
    obtain ⟨va, vc, rfl, -, -⟩ := id Hv.out
    rw [hL] at Hv ⊢
    have hne0 : ((N : Int) == 0) = false := by simp; omega
    have Hv4 := Hv
    have Hb4 := Hb
    go_wp2_with fail
    go_loopg [6] N (fun k i wr => ∃ j : Nat, k = N - j ∧ j ≤ N ∧ i = .int .i64 j ∧ Hid (DSl wr w1.heap.size (.slice va N vc) L) ∧ Hid (Below w.heap.size w wr))
    case atStart => exact ⟨0, rfl, Nat.zero_le _, rfl, Hv4, Hb4⟩
    case round =>
      obtain ⟨j, rfl, hj, rfl, Hv, Hb⟩ := hrel
      by_cases hlt : j < N
      · have Hk := Lib.hid (Hkk.out j hlt)
        rw [Hl.out j hlt] at Hk
        have Hn := Lib.hid (Hin.out j hlt)
        obtain ⟨q1, q2⟩ := Hinn.out j hlt
        rw [q1, q2] at Hn
        have hjl : (j : Int) < N := by omega
        have HXo := Lib.hid (show ∀ W, (binOp .eql 60 (.agg #[.int .i64 ((if j = k0 then oneD else .zero)).n.a, .int .i64 ((if j = k0 then oneD else .zero)).n.b, .int .i64 ((if j = k0 then oneD else .zero)).n.c, .int .i64 ((if j = k0 then oneD else .zero)).n.d, .int .i64 ((if j = k0 then oneD else .zero)).e]) (.agg #[.int .i64 oneD.n.a, .int .i64 oneD.n.b, .int .i64 oneD.n.c, .int .i64 oneD.n.d, .int .i64 oneD.e])).run Try.prog W = .ok (.bool (decide (j = k0))) W by
          intro W
          by_cases h : j = k0
          · rw [if_pos h, decide_eq_true h, eqD, eqDB_self]
          · rw [if_neg h, decide_eq_false h, eqD, one_not.2])
        have HXz := Lib.hid (show ∀ W, (binOp .neq 60 (.agg #[.int .i64 ((if j = k0 then oneD else .zero)).n.a, .int .i64 ((if j = k0 then oneD else .zero)).n.b, .int .i64 ((if j = k0 then oneD else .zero)).n.c, .int .i64 ((if j = k0 then oneD else .zero)).n.d, .int .i64 ((if j = k0 then oneD else .zero)).e]) (.agg #[.int .i64 0, .int .i64 0, .int .i64 0, .int .i64 0, .int .i64 0])).run Try.prog W = .ok (.bool (decide (j = k0))) W by
          intro W
          show (binOp .neq 60 (.agg #[.int .i64 ((if j = k0 then oneD else .zero)).n.a, .int .i64 ((if j = k0 then oneD else .zero)).n.b, .int .i64 ((if j = k0 then oneD else .zero)).n.c, .int .i64 ((if j = k0 then oneD else .zero)).n.d, .int .i64 ((if j = k0 then oneD else .zero)).e]) (.agg #[.int .i64 Dw.zero.n.a, .int .i64 Dw.zero.n.b, .int .i64 Dw.zero.n.c, .int .i64 Dw.zero.n.d, .int .i64 Dw.zero.e])).run Try.prog W = _
          by_cases h : j = k0
          · rw [if_pos h, decide_eq_true h, neD, one_not.1]; rfl
          · rw [if_neg h, decide_eq_false h, neD, eqDB_self]; rfl)
        have Hone := Lib.hid (fun w => ione_any w)
        generalize (if j = k0 then oneD else .zero) = X at *
        generalize oneD = O at *
        clear q1 q2
        go_wp2_with fail
        refine (Hk.out _).mono ?_
        rintro e w5 ⟨vk, rfl, hd5, hb5⟩
        have Hvk := Lib.hid hd5
        have Hv5 := Lib.hid (Hv.out.below hb5)
        have Hb5 := Lib.hid (below_nx Hb.out hb5)
        clear hd5 hb5
        go_wp2_with fail
        refine (Hn.out _ _ _ _ _ Hvk.out Hv5.out).mono ?_
        rintro e w6 ⟨rfl, hb6⟩
        have Hv6 := Lib.hid ((Hv5.out.below hb6).below ((Below.refl _ _).alloc (Nat.le_refl _) (.cells #[.int .i64 X.n.a, .int .i64 X.n.b, .int .i64 X.n.c, .int .i64 X.n.d, .int .i64 X.e] 60)))
        have Hb6 := Lib.hid ((below_nx Hb5.out hb6).alloc (below_nx Hb5.out hb6).size (.cells #[.int .i64 X.n.a, .int .i64 X.n.b, .int .i64 X.n.c, .int .i64 X.n.d, .int .i64 X.e] 60))
        obtain ⟨c0, c1, c2, c3, c4⟩ := blk_cells5 (heap_alloc_new w6 (.cells #[.int .i64 X.n.a, .int .i64 X.n.b, .int .i64 X.n.c, .int .i64 X.n.d, .int .i64 X.e] 60))
        have hzl := lt_of_block (heap_alloc_new w6 (.cells #[.int .i64 X.n.a, .int .i64 X.n.b, .int .i64 X.n.c, .int .i64 X.n.d, .int .i64 X.e] 60))
        clear hb6
        go_upto_region 11 with fail
        go_cut [69] from 35 to 69 (fun s69 wx => s69 = .bool false ∧ Hid (Below (w6.alloc (.cells #[.int .i64 X.n.a, .int .i64 X.n.b, .int .i64 X.n.c, .int .i64 X.n.d, .int .i64 X.e] 60)).heap.size (w6.alloc (.cells #[.int .i64 X.n.a, .int .i64 X.n.b, .int .i64 X.n.c, .int .i64 X.n.d, .int .i64 X.e] 60)) wx))
        case first =>
          have hS : D1 (w6.alloc (.cells #[.int .i64 X.n.a, .int .i64 X.n.b, .int .i64 X.n.c, .int .i64 X.n.d, .int .i64 X.e] 60)) w6.heap.size X (w6.alloc (.cells #[.int .i64 X.n.a, .int .i64 X.n.b, .int .i64 X.n.c, .int .i64 X.n.d, .int .i64 X.e] 60)) := ⟨c0, c1, c2, c3, c4, hzl, Below.refl _ _⟩
          have hXo := HXo.out
          have hXz := HXz.out
          by_cases hjk : j = k0
          · have g1 : ((j : Int) == k0) = true := by simp [hjk]
            have g2 : ((j : Int) != k0) = false := by simp [hjk]
            rw [decide_eq_true hjk] at hXo hXz
            clear hjk
            refine wp_region_held_drew (S := fun w' => w'.cell? ⟨w6.heap.size, 0, none⟩ = some (.int .i64 X.n.a) ∧ w'.cell? ⟨w6.heap.size, 1, none⟩ = some (.int .i64 X.n.b) ∧ w'.cell? ⟨w6.heap.size, 2, none⟩ = some (.int .i64 X.n.c) ∧ w'.cell? ⟨w6.heap.size, 3, none⟩ = some (.int .i64 X.n.d) ∧ w'.cell? ⟨w6.heap.size, 4, none⟩ = some (.int .i64 X.e) ∧ w6.heap.size < w'.heap.size ∧ Below (w6.alloc (.cells #[.int .i64 X.n.a, .int .i64 X.n.b, .int .i64 X.n.c, .int .i64 X.n.d, .int .i64 X.e] 60)).heap.size (w6.alloc (.cells #[.int .i64 X.n.a, .int .i64 X.n.b, .int .i64 X.n.c, .int .i64 X.n.d, .int .i64 X.e] 60)) w') (by kernel_rfl) ?_ (fun hHeld => ?_)
            · exact hS.drew
            refine wpAnyH_take (i := 0) (oi := _) (v := ?_) op_at0 (by kernel_rfl) (by kernel_rfl) (by kernel_rfl) (fun _ _ _ h => h) (Or.inl ⟨by rfl, ?_⟩) (by assumption) ?_
            rotate_left
            · intro w hSw
              (try dsimp only at hSw)
              go_simp
              (try with_reducible rfl)
            (try simp only [Act.put, List.setIfInBounds_toArray, List.set_cons_zero, List.set_cons_succ])
            refine wpAnyH_take (i := 1) (oi := _) (v := ?_) op_at1 (by kernel_rfl) (by kernel_rfl) (by kernel_rfl) (fun _ _ _ h => h) (Or.inl ⟨by rfl, ?_⟩) (by assumption) ?_
            rotate_left
            · intro w hSw
              (try dsimp only at hSw)
              go_simp
              (try with_reducible rfl)
            (try simp only [Act.put, List.setIfInBounds_toArray, List.set_cons_zero, List.set_cons_succ])
            refine wpAnyH_take (i := 2) (oi := _) (v := ?_) op_at2 (by kernel_rfl) (by kernel_rfl) (by kernel_rfl) (fun _ _ _ h => h) (Or.inl ⟨by rfl, ?_⟩) (by assumption) ?_
            rotate_left
            · intro w hSw
              (try dsimp only at hSw)
              go_simp
              (try with_reducible rfl)
            (try simp only [Act.put, List.setIfInBounds_toArray, List.set_cons_zero, List.set_cons_succ])
            refine wpAnyH_take (i := 3) (oi := _) (v := ?_) op_at3 (by kernel_rfl) (by kernel_rfl) (by kernel_rfl) (fun _ _ _ h => h) (Or.inl ⟨by rfl, ?_⟩) (by assumption) ?_
            rotate_left
            · intro w hSw
              (try dsimp only at hSw)
              go_simp
              (try with_reducible rfl)
            (try simp only [Act.put, List.setIfInBounds_toArray, List.set_cons_zero, List.set_cons_succ])
            refine wpAnyH_take (i := 4) (oi := _) (v := ?_) op_at4 (by kernel_rfl) (by kernel_rfl) (by kernel_rfl) (fun _ _ _ h => h) (Or.inl ⟨by rfl, ?_⟩) (by assumption) ?_
            rotate_left
            · intro w hSw
              (try dsimp only at hSw)
              go_simp
              (try with_reducible rfl)
            (try simp only [Act.put, List.setIfInBounds_toArray, List.set_cons_zero, List.set_cons_succ])
            refine wpAnyH_take (i := 5) (oi := _) (v := ?_) op_at5 (by kernel_rfl) (by kernel_rfl) (by kernel_rfl) (fun _ _ _ h => h) (Or.inl ⟨by rfl, ?_⟩) (by assumption) ?_
            rotate_left
            · intro w hSw
              (try dsimp only at hSw)
              go_simp
              (try with_reducible rfl)
            (try simp only [Act.put, List.setIfInBounds_toArray, List.set_cons_zero, List.set_cons_succ])
            refine wpAnyH_take (i := 6) (oi := _) (v := ?_) op_at6 (by kernel_rfl) (by kernel_rfl) (by kernel_rfl) (fun _ _ _ h => h) (Or.inl ⟨by rfl, ?_⟩) (by assumption) ?_
            rotate_left
            · intro w hSw
              (try dsimp only at hSw)
              go_simp
              (try with_reducible rfl)
            (try simp only [Act.put, List.setIfInBounds_toArray, List.set_cons_zero, List.set_cons_succ])
            refine wpAnyH_ready (rs := [7]) (by kernel_rfl) (by simp) ?_
            refine AllReadyH.cons (o := _) op_at7 (fun K hK => ?_) ?_
            · go_simp
              refine (Hone.out _).mono ?_
              rintro e wR ⟨rfl, hbR⟩
              go_wp2_with fail
              refine hK.out _ _ ?_ (fun hHeld => ?_)
              · exact hS.drew.below hbR
              clear hK K
              (try simp only [Act.put, List.setIfInBounds_toArray, List.set_cons_zero, List.set_cons_succ])
              refine wpAnyH_take (i := 8) (oi := _) (v := ?_) op_at8 (by kernel_rfl) (by kernel_rfl) (by kernel_rfl) (fun _ _ _ h => h) (Or.inl ⟨by rfl, ?_⟩) (by assumption) ?_
              rotate_left
              · intro w hSw
                (try dsimp only at hSw)
                go_simp
                (try with_reducible rfl)
              (try simp only [Act.put, List.setIfInBounds_toArray, List.set_cons_zero, List.set_cons_succ])
              refine wpAnyH_take (i := 9) (oi := _) (v := ?_) op_at9 (by kernel_rfl) (by kernel_rfl) (by kernel_rfl) (fun _ _ _ h => h) (Or.inl ⟨by rfl, ?_⟩) (by assumption) ?_
              rotate_left
              · intro w hSw
                (try dsimp only at hSw)
                go_simp
                (try with_reducible rfl)
              (try simp only [Act.put, List.setIfInBounds_toArray, List.set_cons_zero, List.set_cons_succ])
              refine wpAnyH_take (i := 10) (oi := _) (v := ?_) op_at10 (by kernel_rfl) (by kernel_rfl) (by kernel_rfl) (fun _ _ _ h => h) (Or.inl ⟨by rfl, ?_⟩) (by assumption) ?_
              rotate_left
              · intro w hSw
                (try dsimp only at hSw)
                go_simp
                (try with_reducible rfl)
              (try simp only [Act.put, List.setIfInBounds_toArray, List.set_cons_zero, List.set_cons_succ])
              refine wpAnyH_take (i := 11) (oi := _) (v := ?_) op_at11 (by kernel_rfl) (by kernel_rfl) (by kernel_rfl) (fun _ _ _ h => h) (Or.inl ⟨by rfl, ?_⟩) (by assumption) ?_
              rotate_left
              · intro w hSw
                (try dsimp only at hSw)
                go_simp
                (try with_reducible rfl)
              (try simp only [Act.put, List.setIfInBounds_toArray, List.set_cons_zero, List.set_cons_succ])
              refine wpAnyH_take (i := 12) (oi := _) (v := ?_) op_at12 (by kernel_rfl) (by kernel_rfl) (by kernel_rfl) (fun _ _ _ h => h) (Or.inl ⟨by rfl, ?_⟩) (by assumption) ?_
              rotate_left
              · intro w hSw
                (try dsimp only at hSw)
                go_simp
                (try with_reducible rfl)
              (try simp only [Act.put, List.setIfInBounds_toArray, List.set_cons_zero, List.set_cons_succ])
              refine wpAnyH_take (i := 13) (oi := _) (v := ?_) op_at13 (by kernel_rfl) (by kernel_rfl) (by kernel_rfl) (fun _ _ _ h => h) (Or.inl ⟨by rfl, ?_⟩) (by assumption) ?_
              rotate_left
              · intro w hSw
                (try dsimp only at hSw)
                go_simp
                (try with_reducible rfl)
              (try simp only [Act.put, List.setIfInBounds_toArray, List.set_cons_zero, List.set_cons_succ])
              refine wpAnyH_take (i := 14) (oi := _) (v := ?_) op_at14 (by kernel_rfl) (by kernel_rfl) (by kernel_rfl) (fun _ _ _ h => h) (Or.inl ⟨by rfl, ?_⟩) (by assumption) ?_
              rotate_left
              · intro w hSw
                (try dsimp only at hSw)
                go_simp
                (try with_reducible rfl)
              (try simp only [Act.put, List.setIfInBounds_toArray, List.set_cons_zero, List.set_cons_succ])
              refine wpAnyH_take (i := 15) (oi := _) (v := ?_) op_at15 (by kernel_rfl) (by kernel_rfl) (by kernel_rfl) (fun _ _ _ h => h) (Or.inl ⟨by rfl, ?_⟩) (by assumption) ?_
              rotate_left
              · intro w hSw
                (try dsimp only at hSw)
                go_simp
                (try with_reducible rfl)
              (try simp only [Act.put, List.setIfInBounds_toArray, List.set_cons_zero, List.set_cons_succ])
              refine wpAnyH_take (i := 16) (oi := _) (v := undef) op_at16 (by kernel_rfl) (by kernel_rfl) (by kernel_rfl) (fun _ _ _ h => h) (Or.inr ⟨by rfl, rfl⟩) (by assumption) ?_
              (try simp only [Act.put, List.setIfInBounds_toArray, List.set_cons_zero, List.set_cons_succ])
              refine wpAnyH_take (i := 17) (oi := _) (v := undef) op_at17 (by kernel_rfl) (by kernel_rfl) (by kernel_rfl) (fun _ _ _ h => h) (Or.inr ⟨by rfl, rfl⟩) (by assumption) ?_
              (try simp only [Act.put, List.setIfInBounds_toArray, List.set_cons_zero, List.set_cons_succ])
              refine wpAnyH_take (i := 18) (oi := _) (v := undef) op_at18 (by kernel_rfl) (by kernel_rfl) (by kernel_rfl) (fun _ _ _ h => h) (Or.inr ⟨by rfl, rfl⟩) (by assumption) ?_
              (try simp only [Act.put, List.setIfInBounds_toArray, List.set_cons_zero, List.set_cons_succ])
              refine wpAnyH_take (i := 19) (oi := _) (v := ?_) op_at19 (by kernel_rfl) (by kernel_rfl) (by kernel_rfl) (fun _ _ _ h => h) (Or.inl ⟨by rfl, ?_⟩) (by assumption) ?_
              rotate_left
              · intro w hSw
                (try dsimp only at hSw)
                go_simp
                (try with_reducible rfl)
              (try simp only [Act.put, List.setIfInBounds_toArray, List.set_cons_zero, List.set_cons_succ])
              refine wpAnyH_take (i := 20) (oi := _) (v := ?_) op_at20 (by kernel_rfl) (by kernel_rfl) (by kernel_rfl) (fun _ _ _ h => h) (Or.inl ⟨by rfl, ?_⟩) (by assumption) ?_
              rotate_left
              · intro w hSw
                (try dsimp only at hSw)
                go_simp
                (try with_reducible rfl)
              (try simp only [Act.put, List.setIfInBounds_toArray, List.set_cons_zero, List.set_cons_succ])
              refine wpAnyH_done (by kernel_rfl) ?_ _
              go_wp2_with fail
              go_meet
              exact ⟨rfl, D1.low (n0 := w6.heap.size) (x0 := X) (hS.drew.below hbR)⟩
            · exact AllReadyH.nil
          · have g1 : ((j : Int) == k0) = false := by simp; omega
            have g2 : ((j : Int) != k0) = true := by simp; omega
            rw [decide_eq_false hjk] at hXo hXz
            clear hjk
            go_region_held3 (fun w' => w'.cell? ⟨w6.heap.size, 0, none⟩ = some (.int .i64 X.n.a) ∧ w'.cell? ⟨w6.heap.size, 1, none⟩ = some (.int .i64 X.n.b) ∧ w'.cell? ⟨w6.heap.size, 2, none⟩ = some (.int .i64 X.n.c) ∧ w'.cell? ⟨w6.heap.size, 3, none⟩ = some (.int .i64 X.n.d) ∧ w'.cell? ⟨w6.heap.size, 4, none⟩ = some (.int .i64 X.e) ∧ w6.heap.size < w'.heap.size ∧ Below (w6.alloc (.cells #[.int .i64 X.n.a, .int .i64 X.n.b, .int .i64 X.n.c, .int .i64 X.n.d, .int .i64 X.e] 60)).heap.size (w6.alloc (.cells #[.int .i64 X.n.a, .int .i64 X.n.b, .int .i64 X.n.c, .int .i64 X.n.d, .int .i64 X.e] 60)) w') (first | (show D1 (w6.alloc (.cells #[.int .i64 X.n.a, .int .i64 X.n.b, .int .i64 X.n.c, .int .i64 X.n.d, .int .i64 X.e] 60)) w6.heap.size X _; (with_reducible exact hS.drew)) | (show D1 (w6.alloc (.cells #[.int .i64 X.n.a, .int .i64 X.n.b, .int .i64 X.n.c, .int .i64 X.n.d, .int .i64 X.e] 60)) w6.heap.size X _; (with_reducible refine D1.below ?_ hbR); first | assumption | exact ⟨by assumption, by assumption, by assumption, by assumption, by assumption, by assumption, by assumption⟩))
              (first | (go_at_call 60; (with_reducible refine (Hone.out _).mono ?_); rintro e wR ⟨rfl, hbR⟩))
            all_goals go_wp2_with fail
            all_goals go_meet
            all_goals exact ⟨rfl, D1.low (n0 := w6.heap.size) (x0 := X) (by first | assumption | exact ⟨by assumption, by assumption, by assumption, by assumption, by assumption, by assumption, by assumption⟩)⟩
        case rest =>
        obtain ⟨rfl, Hbx⟩ := hcut
        have Hv7 := Lib.hid (Hv6.out.below Hbx.out)
        have Hb7 := Lib.hid (below_nx Hb6.out Hbx.out)
        clear c0 c1 c2 c3 c4
        go_wp2_with fail
        go_roundg (N - (j + 1))
        case measure => omega
        case rel => exact ⟨j + 1, rfl, by omega, by go_num, Hv7, Hb7⟩
      · obtain rfl : j = N := by omega
        go_wp2_with fail
        refine (Hqu.out _ _ _ Hv.out).mono ?_
        rintro e w5 ⟨rfl, hb5⟩
        have Hv5 := Lib.hid (Hv.out.below hb5)
        have Hb5 := Lib.hid (below_nx Hb.out hb5)
        clear hb5
        go_wp2_with fail
        refine (Hva.out _ _ _ Hv5.out).mono ?_
        rintro e w6 ⟨rfl, hb6⟩
        have Hv6 := Lib.hid (Hv5.out.below hb6)
        have Hb6 := Lib.hid (below_nx Hb5.out hb6)
        clear hb6
        go_wp2_with fail
        refine (Heq.out _ _ _ _ _ Hv6.out Hv6.out).mono ?_
        rintro e w7 ⟨rfl, hb7⟩
        have Hb7 := Lib.hid (below_nx Hb6.out hb7)
        clear hb7
        go_wp2_with fail
        go_ret
        exact ⟨rfl, Hb7.out⟩
  · rw [show basisL n i = [] from if_neg hc] at Hi Hs
    clear hc
    go_wp2_with fail
    refine (Hi.out _).mono ?_
    rintro e w2 ⟨v, rfl, hd2, hb2⟩
    have Hv := Lib.hid hd2
    have Hb := Lib.hid (below_nx Hb.out hb2)
    clear hd2 hb2
    go_wp2_with fail
    refine (Hs.out _).mono ?_
    rintro e w3 ⟨v0, rfl, hd3, hb3⟩
    have Hv0 := Lib.hid hd3
    have Hv := Lib.hid (Hv.out.below hb3)
    have Hb := Lib.hid (below_nx Hb.out hb3)
    clear hd3 hb3
    go_wp2_with fail
    refine (sequal_self _ _ _ _ [] _ Hv.out Hv0.out (by simp)).mono ?_
    rintro e w4 ⟨rfl, hb4⟩
    have Hv := Lib.hid (Hv.out.below hb4)
    have Hb := Lib.hid (below_nx Hb.out hb4)
    clear hb4
    obtain ⟨va, vc, rfl, -, -⟩ := id Hv.out
    simp only [List.length_nil] at Hv ⊢
    go_wp2_with fail
    refine (Hs.out _).mono ?_
    rintro e w5 ⟨v5, rfl, hd5, hb5⟩
    have Hv5 := Lib.hid hd5
    have Hv := Lib.hid (Hv.out.below hb5)
    have Hb := Lib.hid (below_nx Hb.out hb5)
    clear hd5 hb5
    go_wp2_with fail
    refine (sequal_self _ _ _ _ [] _ Hv.out Hv5.out (by simp)).mono ?_
    rintro e w6 ⟨rfl, hb6⟩
    have Hb := Lib.hid (below_nx Hb.out hb6)
    clear hb6
    go_wp2_with fail
    go_ret
    exact ⟨rfl, Hb.out⟩
set_option maxRecDepth 100000 in
set_option maxHeartbeats 400000 in
theorem walk (a0 : Option Addr) (len cap : Nat) (w : World) (hm : len ≤ maxLen) (hlc : len ≤ cap) (hc : len ≤ 1048576 → CodeAt w w.heap.size a0 len) :
    Calls Try.prog 15 #[.slice a0 len cap] w fun e w' => e = .returned (.bool true) ∧ Below w.heap.size w w' := by
  by_cases hs : len ≤ 1048576
  · exact core a0 len cap hs hlc w (hc hs)
  · unfold maxLen at hm
    clear hc
    go_enter Try.func15, Try.ntmps15
    go_wp2_with (go_at_call 19; go_in)
    go_ret
    exact ⟨rfl, Below.refl _ _⟩

open Go.ChangeMaps (open_string shut_string)
theorem laidOut : laidOutB Try.prog = true := by kernel_rfl
theorem own : ownKnob Try.prog.godebug = none := by kernel_rfl
set_option maxRecDepth 100000 in
/-- What the walk gives, for every argument. -/
theorem contract (H : Type) (enc : TypeId × Value → H) (W : World) (base : Nat) (args : Array Value) (ds gs : List (DataW H)) (before : List MemPlace)
    (hval : ∀ (j : Nat) t v, Try.f15.params[j]? = some t → args[j]? = some v → Value.okWide Try.prog W .any base t v)
    (hW : DataW.Whole enc Try.prog Try.f15.params.toList Rows.fnBasisSpec.vars false W args.toList ds gs before) :
    Calls Try.prog 15 args W fun e W' => ∃ v, e = .returned v ∧ Rows.fnBasisSpec.post enc Try.prog Try.f15 false true false false W args v W' := by
  have hW' := hW
  obtain ⟨p, q, hA0, hV, rfl, hfz, hnd⟩ := hW
  have hA : DataW.TrodAll enc Try.prog W 0 (fun _ => true) true Try.f15.params.toList args.toList ds p := hA0
  rw [Try.params15] at hA hval
  obtain ⟨v0, vs0, d0, ds0, p0, q0, hargs, rfl, rfl, h0, r0⟩ := trodAll_cons hA
  obtain ⟨rfl, rfl, rfl⟩ := trodAll_nil r0
  obtain rfl : args = #[v0] := by cases args; simp_all
  obtain ⟨rfl, rfl⟩ := trodVars_none hV
  obtain ⟨ca, cl, cc, rfl⟩ := okWide_slice Try.underlying22 (hval 0 22 v0 rfl rfl)
  have k0 := h0
  have lt0 : ∀ x ∈ p0, x.block < W.heap.size := by obtain ⟨m, hm⟩ := k0; exact DataW.trod_lt m _ _ _ hm
  have ch : (cl ≤ 1048576 → CodeAt W W.heap.size ca cl) ∧ cl ≤ maxLen ∧ cl ≤ cc := by
    obtain ⟨fuel, hf⟩ := h0
    rcases open_ints Try.underlying22 Try.underlying5 (by kernel_rfl) hf with ⟨hcs, _⟩ | ⟨x, l, c, zs, hcs, _, hl, hm, hz, _, hcell, hwz⟩
    · simp [Value.cells] at hcs
      obtain ⟨rfl, rfl, rfl⟩ := hcs
      exact ⟨fun _ => ⟨by omega, fun h => absurd h (by omega)⟩, Nat.zero_le _, Nat.le_refl _⟩
    · simp [Value.cells] at hcs
      obtain ⟨rfl, rfl, rfl⟩ := hcs
      have hz2 : zs.length = cc := by simpa using hz
      exact ⟨fun hs => code_of hs (by omega) hcell hwz, by omega, hl⟩
  clear hA0
  simp only [List.append_nil] at hW'
  refine (walk ca cl cc W ch.2.1 ch.2.2 ch.1).mono fun e W' ⟨he, hg⟩ => ?_
  subst he
  exact ⟨_, rfl, _, _, _, [], _, [], hW', trodAll_mk1 (shut_bool Try.underlying4 _), (trodAll_cons_mk (Below.trod laidOut (by kernel_rfl) (of_decide_eq_true (by kernel_rfl)) k0 hg lt0) trodAll_mk0), rfl, hg.frame _, fun h => by cases h⟩

set_option maxRecDepth 100000 in
theorem lifted (os : Os) (started : os.Started) (H : Type) (enc : TypeId × Value → H) :
    ReturnsInHanded {} Try.checked os 15 .any (Rows.fnBasisSpec.pre6 enc Try.prog Try.f15 Rows.fnBasisRow.domain false) (Rows.fnBasisSpec.post enc Try.prog Try.f15 false true false false) := by
  refine returnsInHanded_of_change (C := Try.checked) own started (by kernel_rfl) Try.func15
    (ChangeSpec.witness6 (enc := enc) (C := Try.checked) false ⟨#[], #[.slice none 0 0], []⟩ 8 (by kernel_rfl) (by kernel_rfl) (by kernel_rfl) (by kernel_rfl)) ?_
  intro W base args ds gs before hval hW _ _
  exact contract H enc W base args ds gs before hval hW
theorem closedFacts : joinedFacts Try.pinned.checked.prog 15 Try.f15 Rows.fnBasisSpec Rows.fnBasisRow = true := by
  unfold joinedFacts
  rw [init_may, init_facts.2.1, init_facts.2.2]
  kernel_rfl
theorem said : Rows.FnBasisSaid :=
  OpenClaim.holds_of_wide 15 Try.f15 rfl rfl rfl rfl rfl rfl rfl ⟨rfl, rfl, rfl, rfl, rfl⟩ rfl rfl rfl rfl rfl (by kernel_rfl) Try.func15 closedFacts
    (of_decide_eq_true (by kernel_rfl)) (by unfold Func.isWrapper; first | (rw [if_pos (by decide +kernel)]; kernel_rfl) | (rw [if_neg (by decide +kernel)]; exact ⟨rfl, rfl⟩))
    (fun os started H enc _ => lifted os started H enc)
end Go.Proofs.Ytggjbpgibdpflaa.fnBasis
