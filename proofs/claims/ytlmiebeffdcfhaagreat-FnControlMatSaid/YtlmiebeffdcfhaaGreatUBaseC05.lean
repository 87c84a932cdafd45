/- UBaseC05: several of our texts in one: UCpU UCtE. -/
import Derived.Test.YtlmiebeffdcfhaaGreatUBaseB20
import Derived.Test.YtlmiebeffdcfhaaGreatUGtF
import Derived.Test.YtlmiebeffdcfhaaGreatUBaseC07
import Derived.Test.YtlmiebeffdcfhaaGreatUBaseB06
import Derived.Test.YtlmiebeffdcfhaaGreatUBaseC02
namespace Go.Proofs.YtlmiebeffdcfhaaGreat
/-- Every coefficient lies within K. -/
def Mx (K : Int) (z : Zw) : Prop := (-K ≤ z.a ∧ z.a ≤ K) ∧ (-K ≤ z.b ∧ z.b ≤ K) ∧ (-K ≤ z.c ∧ z.c ≤ K) ∧ (-K ≤ z.d ∧ z.d ≤ K)
theorem Mx.root_back {K : Int} {z : Zw} (h : Mx K z.root) : Mx K z := by
  unfold Mx Zw.root at h
  simp only at h
  unfold Mx
  omega
theorem Mx.rootN_back {K : Int} : ∀ (k : Nat) {z : Zw}, Mx K (rootN k z) → Mx K z
  | 0, _, h => h
  | k + 1, z, h => Mx.rootN_back k (Mx.root_back (by rwa [← rootN_succ]))
theorem Mx.add {K J : Int} {x y : Zw} (h : Mx K x) (k : Mx J y) : Mx (K + J) (x.add y) := by
  unfold Mx at *
  unfold Zw.add
  simp only
  omega
theorem prod_in {K u v : Int} (h0 : -K ≤ u) (h1 : u ≤ K) (k0 : -K ≤ v) (k1 : v ≤ K) : -(K * K) ≤ u * v ∧ u * v ≤ K * K := by
  have a1 := Int.mul_nonneg (show 0 ≤ K - u by omega) (show 0 ≤ K + v by omega)
  have a2 := Int.mul_nonneg (show 0 ≤ K + u by omega) (show 0 ≤ K - v by omega)
  have a3 := Int.mul_nonneg (show 0 ≤ K - u by omega) (show 0 ≤ K - v by omega)
  have a4 := Int.mul_nonneg (show 0 ≤ K + u by omega) (show 0 ≤ K + v by omega)
  rw [Int.sub_mul, Int.mul_add, Int.mul_add] at a1
  rw [Int.add_mul, Int.mul_sub, Int.mul_sub] at a2
  rw [Int.sub_mul, Int.mul_sub, Int.mul_sub] at a3
  rw [Int.add_mul, Int.mul_add, Int.mul_add] at a4
  constructor <;> omega
theorem Mx.mul {K : Int} {x y : Zw} (h : Mx K x) (k : Mx K y) : Mx (4 * (K * K)) (x.mul y) := by
  obtain ⟨⟨a0, a1⟩, ⟨b0, b1⟩, ⟨c0, c1⟩, d0, d1⟩ := h
  obtain ⟨⟨e0, e1⟩, ⟨f0, f1⟩, ⟨g0, g1⟩, i0, i1⟩ := k
  have p1 := prod_in a0 a1 e0 e1
  have p2 := prod_in a0 a1 f0 f1
  have p3 := prod_in a0 a1 g0 g1
  have p4 := prod_in a0 a1 i0 i1
  have q1 := prod_in b0 b1 e0 e1
  have q2 := prod_in b0 b1 f0 f1
  have q3 := prod_in b0 b1 g0 g1
  have q4 := prod_in b0 b1 i0 i1
  have r1 := prod_in c0 c1 e0 e1
  have r2 := prod_in c0 c1 f0 f1
  have r3 := prod_in c0 c1 g0 g1
  have r4 := prod_in c0 c1 i0 i1
  have s1 := prod_in d0 d1 e0 e1
  have s2 := prod_in d0 d1 f0 f1
  have s3 := prod_in d0 d1 g0 g1
  have s4 := prod_in d0 d1 i0 i1
  unfold Mx Zw.mul
  simp only
  omega
theorem Mx.conj {K : Int} {x : Zw} (h : Mx K x) : Mx K x.conj := by
  unfold Mx at *
  unfold Zw.conj
  simp only
  omega
theorem Mx.ok {K : Int} {x : Zw} (h : Mx K x) (hK : K ≤ 1073741824) : x.ok := by
  unfold Mx at h
  unfold Zw.ok Near
  omega
theorem upB_of : ∀ (k : Nat) {n : Zw}, (∀ i, i ≤ k → (rootN i n).ok) → upB k n = true
  | 0, _, _ => rfl
  | k + 1, n, h => by
    have h0 := h 0 (by omega)
    have h1 := h 1 (by omega)
    rw [upB, Bool.and_eq_true]
    refine ⟨?_, upB_of k fun i hi => ?_⟩
    · unfold mulB
      rw [decide_eq_true_eq]
      exact ⟨h0, by decide, by rw [mul_rootE]; exact h1⟩
    · have := h (i + 1) (by omega)
      rwa [Nat.add_comm, rootN_add] at this
/-- x is, over the root's power t, a number with small coefficients. -/
def Ov (t : Nat) (K : Int) (x : Dw) : Prop := x.ok ∧ ∃ P, rootN t (vl x) = rootN 60 P ∧ Mx K P
theorem Ov.exp {t : Nat} {K : Int} {x : Dw} (h : Ov t K x) : x.e ≤ t ∧ ∀ i, i ≤ t - x.e.toNat → Mx K (rootN i x.n) := by
  obtain ⟨hx, P, hP, hK⟩ := h
  obtain ⟨x1, x2, x3, x4⟩ := hx
  unfold vl at hP
  rw [← rootN_add] at hP
  have hle : x.e ≤ t := by
    rcases Int.lt_or_le (t : Int) x.e with hl | hl
    · exfalso
      have h1 : x.n = rootN (x.e.toNat - t) P := by
        apply rootN_inj (k := 60 - x.e.toNat + t)
        rw [hP, ← rootN_add]
        congr 1; omega
      rcases x4 with x4 | x4
      · omega
      · have hm : x.n = (rootN (x.e.toNat - t - 1) P).root := by
          rw [h1, show x.e.toNat - t = (x.e.toNat - t - 1) + 1 by omega, rootN_succ]
          congr 2
        have hd : divB x.n = true := by
          rw [divB_iff]
          refine ⟨x1, ?_⟩
          rw [hm]
          unfold Zw.even Zw.root
          simp only
          omega
        rw [x4] at hd
        cases hd
    · exact hl
  refine ⟨hle, fun i hi => ?_⟩
  have h2 : rootN (t - x.e.toNat) x.n = P := by
    apply rootN_inj (k := 60)
    rw [← hP, ← rootN_add]
    congr 1; omega
  rw [← h2, show t - x.e.toNat = i + (t - x.e.toNat - i) by omega, rootN_add] at hK
  exact hK.rootN_back _
theorem Ov.mul {t : Nat} {K : Int} {x y : Dw} (h : Ov t K x) (k : Ov t K y) (_ : K ≤ 1073741824) (h4 : 4 * (K * K) ≤ 1073741824) (ht : t ≤ 30) : dMulB x y = true ∧ Ov (2 * t) (4 * (K * K)) (dMulV x y) := by
  obtain ⟨hx, P, hP, hPK⟩ := id h
  obtain ⟨hy, Q, hQ, hQK⟩ := id k
  obtain ⟨ex, mx⟩ := h.exp
  obtain ⟨ey, my⟩ := k.exp
  have x0 := hx.2.1
  have y0 := hy.2.1
  have hmul := (mx 0 (by omega)).mul (my 0 (by omega))
  have hok : (x.n.mul y.n).ok := hmul.ok h4
  have hB : dMulB x y = true := by
    rw [dMulB_iff]
    refine ⟨hx, hy, ?_, ?_⟩
    · unfold mulB
      rw [decide_eq_true_eq]
      exact ⟨hx.1, hy.1, hok⟩
    · rw [newB_iff]
      refine ⟨hok, by omega, by omega, ?_⟩
      have := red_le (x.e + y.e).toNat (x.n.mul y.n)
      omega
  refine ⟨hB, dMulV_ok hB, P.mul Q, ?_, hPK.mul hQK⟩
  have hv := vl_mul hB
  apply rootN_inj (k := 60)
  rw [rootN_comm, hv, show 2 * t = t + t by omega, rootN_mul2, hP, hQ, ← rootN_mul2, rootN_add]
theorem Ov.add {t : Nat} {K J : Int} {x y : Dw} (h : Ov t K x) (k : Ov t J y) (hK : 0 ≤ K) (hJ : 0 ≤ J) (hs : K + J ≤ 1073741824) (ht : t ≤ 60) : dAddB x y = true ∧ Ov t (K + J) (dAddV x y) := by
  obtain ⟨hx, P, hP, hPK⟩ := id h
  obtain ⟨hy, Q, hQ, hQK⟩ := id k
  obtain ⟨ex, mx⟩ := h.exp
  obtain ⟨ey, my⟩ := k.exp
  have x0 := hx.2.1
  have y0 := hy.2.1
  obtain ⟨t1, t2, t3⟩ := topE_le x y
  have hA : Mx K (numA x y) := mx _ (by omega)
  have hBy : Mx J (numB x y) := my _ (by omega)
  have hsum := hA.add hBy
  have hok : ((numA x y).add (numB x y)).ok := hsum.ok hs
  have hB : dAddB x y = true := by
    rw [dAddB_iff]
    refine ⟨hx, hy, upB_of _ fun i hi => (mx i (by omega)).ok (by omega), upB_of _ fun i hi => (my i (by omega)).ok (by omega), ?_, ?_⟩
    · unfold addB
      rw [decide_eq_true_eq]
      exact ⟨hA.ok (by omega), hBy.ok (by omega), hok⟩
    · rw [newB_iff]
      refine ⟨hok, by omega, by omega, ?_⟩
      have := red_le (topE x y).toNat ((numA x y).add (numB x y))
      omega
  refine ⟨hB, dAddV_ok hB, P.add Q, ?_, hPK.add hQK⟩
  rw [vl_add hB, rootN_addZ, rootN_addZ, hP, hQ]
/-- The coefficients of gates one behind the other, over the root's power of the number of GateH. -/
def hs (L : List Gt) : Nat := (L.map fun g => scK g.k).sum
end Go.Proofs.YtlmiebeffdcfhaaGreat
namespace Go.Proofs.YtlmiebeffdcfhaaGreat
open Go.RowKit
theorem clist2_at (w : World) (n : Int) : ListAt (w.alloc (.cells #[.int .i64 n, .int .i64 n, .int .i64 0, .int .i64 (-1), .int .i64 4] 3)) w.heap.size 5 (fun j => .int .i64 ([n, n, 0, -1, 4].getD j 0)) := by
  refine zlist_at (heap_alloc_new _ _) 5 _ ?_
  intro j hj
  rcases (show j = 0 ∨ j = 1 ∨ j = 2 ∨ j = 3 ∨ j = 4 by omega) with rfl | rfl | rfl | rfl | rfl <;> rfl
attribute [local irreducible] World.cell?
theorem cirM_bd {L : List Gt} {n : Nat} (h : n ≤ 4) : MBd (cirM L n) := by
  have h16 : 2 ^ n ≤ 16 := by rcases (show n = 0 ∨ n = 1 ∨ n = 2 ∨ n = 3 ∨ n = 4 by omega) with rfl | rfl | rfl | rfl | rfl <;> decide
  refine ⟨?_, fun r hr => ⟨(cirM_row r hr).1.eb, by rw [(cirM_row r hr).2]; exact h16⟩⟩
  unfold cirM
  split
  · rw [colsM_len, cirC_len]; exact h16
  · exact Nat.zero_le _
set_option maxRecDepth 100000 in
set_option maxHeartbeats 3200000 in
theorem drawCtM (a0 : Option Addr) (len cap : Nat) (w : World) (hcode : CodeAt w w.heap.size a0 len) :
    Calls Tryz.prog 19 #[.slice a0 len cap] w fun e w' => (∃ (q : Int) (v : Value) (M : List (List Dw)), e = .returned (.tuple #[.int .i64 q, v]) ∧ -1 ≤ q ∧ q ≤ 4 ∧ MBd M ∧ DSM w' w.heap.size w'.heap.size v M) ∧ Below w.heap.size w w' := by
  have Hcode := Lib.hid hcode
  clear hcode
  go_enter Tryz.func19, Tryz.ntmps19
  go_wp2_with fail
  refine (new_any a0 len cap _ Hcode.out).mono ?_
  rintro e w1 ⟨rfl, hc1, hb1, hz1⟩
  have Hc1 := Lib.hid hc1
  have Hb1 := Lib.hid hb1
  have hs1 := hb1.size
  clear hc1 hb1
  go_wp2_with fail
  refine (below_any w.heap.size 2 _ Hc1.out (by omega) (by omega)).mono ?_
  rintro e w2 ⟨⟨x, x0, x1, rfl⟩, hc2, ho2⟩
  obtain ⟨k, rfl⟩ : ∃ k : Nat, x = k := ⟨x.toNat, by omega⟩
  have hs2 := ho2.size
  have Hc2 := Lib.hid hc2
  have Hb2 := Lib.hid (own_below Hb1.out ho2 (by omega))
  clear hc2 ho2 Hc1 Hb1
  go_wp2_with fail
  refine (right_i w.heap.size (1 + (k : Int)) 5 _ Hc2.out (by omega) (by omega) (by omega) (by omega)).mono ?_
  rintro e w3 ⟨⟨v, l, rfl, hl, hsl⟩, hc3, ho3⟩
  have hs3 := ho3.size
  have HM := smat _ (k + 2) v l w3 hsl (by omega) (by omega) (by omega)
  rw [show ((k + 2 : Nat) : Int) = 1 + (k : Int) + 1 by omega] at HM
  have HM := Lib.hid HM
  have Hc3 := Lib.hid hc3
  have Hb3 := Lib.hid (own_below Hb2.out ho3 (by omega))
  have Hbd := Lib.hid (cirM_bd (L := l) (n := k + 2) (by omega))
  obtain ⟨p, c, rfl, -, -⟩ := id hsl
  clear hsl hc3 ho3 Hc2 Hb2
  have hfd : ∀ W : World, (Instr.field 38 (.agg #[.int .i64 (1 + (k : Int)), .slice p l.length c]) 1).run Tryz.prog W = .ok (.slice p l.length c) W := fun _ => by kernel_rfl
  generalize cirM l (k + 2) = M at *
  generalize cirB l (k + 2) = T at *
  go_wp2_with fail
  refine (HM.out).mono ?_
  rintro e w4 ⟨⟨r, rfl, hd⟩, hb4⟩
  have hs4 := hb4.size
  have Hd := Lib.hid hd
  have Hc4 := Lib.hid (Hc3.out.below hb4 (by omega))
  have Hb4 := Lib.hid (below_nx Hb3.out hb4)
  obtain ⟨pr, cr, rfl, -, -⟩ := id hd
  clear hd hb4 Hc3 Hb3 HM
  go_wp2_with fail
  refine (once_any w.heap.size 5 _ Hc4.out (by omega) (by omega)).mono ?_
  rintro e w5 ⟨⟨t, rfl⟩, hc5, ho5⟩
  have hs5 := ho5.size
  have Hd5 := Lib.hid ((Hd.out.own ho5 (by omega)).mono (D := w3.heap.size) (E := w5.heap.size) (Nat.le_refl _) hs5)
  have Hc5 := Lib.hid hc5
  have Hb5 := Lib.hid (own_below Hb4.out ho5 (by omega))
  clear hc5 ho5 Hc4 Hb4 Hd
  cases t with
  | true =>
    go_wp2_with fail
    refine (bentM w.heap.size _ Hc5.out (by omega)).mono ?_
    rintro e w6 ⟨⟨u, N, rfl, hN, hd⟩, hc6, ho6⟩
    have hs6 := ho6.size
    have HN := Lib.hid hN
    have Hd6 := Lib.hid hd
    have Hb6 := Lib.hid (own_below Hb5.out ho6 (by omega))
    obtain ⟨pu, cu, rfl, -, -⟩ := id hd
    have HL := Lib.hid (clist2_at w6 (1 + (k : Int)))
    have HA6 := Lib.hid (hc6.own (own_alloc (own_refl w6.heap.size w6) (.cells #[.int .i64 (1 + (k : Int)), .int .i64 (1 + (k : Int)), .int .i64 0, .int .i64 (-1), .int .i64 4] 3)) (by omega))
    have Hb6a := Lib.hid (Hb6.out.alloc (by omega) (.cells #[.int .i64 (1 + (k : Int)), .int .i64 (1 + (k : Int)), .int .i64 0, .int .i64 (-1), .int .i64 4] 3))
    have Hd6a := Lib.hid (Hd6.out.block (w' := w6.alloc (.cells #[.int .i64 (1 + (k : Int)), .int .i64 (1 + (k : Int)), .int .i64 0, .int .i64 (-1), .int .i64 4] 3)) fun q _ _ hq => Below.heap_alloc _ _ _ hq)
    clear hN hd hc6 ho6 Hc5 Hb5 Hd5
    go_wp2_with fail
    refine (pickB w.heap.size w6.heap.size 5 5 [1 + (k : Int), 1 + (k : Int), 0, -1, 4] _ HA6.out HL.out (by omega) (by omega) (by omega) rfl (-1) 4 (by intro v hv; simp at hv; omega)).mono ?_
    rintro e w7 ⟨⟨q, q0, q1, rfl⟩, hc7, ho7⟩
    have hs7 := ho7.size
    have hz7 : (w6.alloc (.cells #[.int .i64 (1 + (k : Int)), .int .i64 (1 + (k : Int)), .int .i64 0, .int .i64 (-1), .int .i64 4] 3)).heap.size = w6.heap.size + 1 := by simp
    have Hd7 := Lib.hid ((Hd6a.out.own ho7 (by omega)).mono (D := w.heap.size) (E := w7.heap.size) (by omega) (by omega))
    have Hb7 := Lib.hid (own_below Hb6a.out ho7 (by omega))
    clear hc7 ho7 hz7
    go_wp2_with fail
    go_returns
    exact ⟨⟨q, _, N, rfl, q0, q1, HN.out, Hd7.out⟩, Hb7.out⟩
  | false =>
    have HL := Lib.hid (clist2_at w5 (1 + (k : Int)))
    have HA6 := Lib.hid (Hc5.out.own (own_alloc (own_refl w5.heap.size w5) (.cells #[.int .i64 (1 + (k : Int)), .int .i64 (1 + (k : Int)), .int .i64 0, .int .i64 (-1), .int .i64 4] 3)) (by omega))
    have Hb6a := Lib.hid (Hb5.out.alloc (by omega) (.cells #[.int .i64 (1 + (k : Int)), .int .i64 (1 + (k : Int)), .int .i64 0, .int .i64 (-1), .int .i64 4] 3))
    have Hd6a := Lib.hid (Hd5.out.block (w' := w5.alloc (.cells #[.int .i64 (1 + (k : Int)), .int .i64 (1 + (k : Int)), .int .i64 0, .int .i64 (-1), .int .i64 4] 3)) fun q _ _ hq => Below.heap_alloc _ _ _ hq)
    clear Hc5 Hb5 Hd5
    go_wp2_with fail
    refine (pickB w.heap.size w5.heap.size 5 5 [1 + (k : Int), 1 + (k : Int), 0, -1, 4] _ HA6.out HL.out (by omega) (by omega) (by omega) rfl (-1) 4 (by intro v hv; simp at hv; omega)).mono ?_
    rintro e w7 ⟨⟨q, q0, q1, rfl⟩, hc7, ho7⟩
    have hs7 := ho7.size
    have hz7 : (w5.alloc (.cells #[.int .i64 (1 + (k : Int)), .int .i64 (1 + (k : Int)), .int .i64 0, .int .i64 (-1), .int .i64 4] 3)).heap.size = w5.heap.size + 1 := by simp
    have Hd7 := Lib.hid ((Hd6a.out.own ho7 (by omega)).mono (D := w.heap.size) (E := w7.heap.size) (by omega) (by omega))
    have Hb7 := Lib.hid (own_below Hb6a.out ho7 (by omega))
    clear hc7 ho7 hz7
    go_wp2_with fail
    go_returns
    exact ⟨⟨q, _, M, rfl, q0, q1, Hbd.out, Hd7.out⟩, Hb7.out⟩
end Go.Proofs.YtlmiebeffdcfhaaGreat
