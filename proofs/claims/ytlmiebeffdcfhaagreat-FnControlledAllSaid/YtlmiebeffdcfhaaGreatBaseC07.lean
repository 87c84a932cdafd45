/- BaseC07: several of our texts in one: CpU LwP CpV LyM ApKe CtE. -/
import Derived.Test.YtlmiebeffdcfhaaGreatBaseB20
import Derived.Test.YtlmiebeffdcfhaaGreatBaseC05
import Derived.Test.YtlmiebeffdcfhaaGreatBaseB19
import Derived.Test.YtlmiebeffdcfhaaGreatApKd
import Derived.Test.YtlmiebeffdcfhaaGreatBaseC04
import Derived.Lib.SliceRun
import Derived.Test.YtlmiebeffdcfhaaGreatGtF
import Derived.Test.YtlmiebeffdcfhaaGreatBaseC02
import Derived.Test.YtlmiebeffdcfhaaGreatBaseB06
namespace Go.Proofs.YtlmiebeffdcfhaaGreat
/-- Every coefficient lies within K. -/
def Mx (K : Int) (z : Zw) : Prop := (-K ≤ z.a ∧ z.a ≤ K) ∧ (-K ≤ z.b ∧ z.b ≤ K) ∧ (-K ≤ z.c ∧ z.c ≤ K) ∧ (-K ≤ z.d ∧ z.d ≤ K)
theorem Mx.root_back {K : Int} {z : Zw} (h : Mx K z.root) : Mx K z := by
  unfold Mx Zw.root at h
  simp only at h
  unfold Mx
  omega
theorem Mx.rootN_back {K : Int} : ∀ (k : Nat) {z : Zw}, Mx K (rootN k z) → Mx K z
  | 0, _, h => h
  | k + 1, z, h => Mx.rootN_back k (Mx.root_back (by rwa [← rootN_succ]))
theorem Mx.add {K J : Int} {x y : Zw} (h : Mx K x) (k : Mx J y) : Mx (K + J) (x.add y) := by
  unfold Mx at *
  unfold Zw.add
  simp only
  omega
theorem prod_in {K u v : Int} (h0 : -K ≤ u) (h1 : u ≤ K) (k0 : -K ≤ v) (k1 : v ≤ K) : -(K * K) ≤ u * v ∧ u * v ≤ K * K := by
  have a1 := Int.mul_nonneg (show 0 ≤ K - u by omega) (show 0 ≤ K + v by omega)
  have a2 := Int.mul_nonneg (show 0 ≤ K + u by omega) (show 0 ≤ K - v by omega)
  have a3 := Int.mul_nonneg (show 0 ≤ K - u by omega) (show 0 ≤ K - v by omega)
  have a4 := Int.mul_nonneg (show 0 ≤ K + u by omega) (show 0 ≤ K + v by omega)
  rw [Int.sub_mul, Int.mul_add, Int.mul_add] at a1
  rw [Int.add_mul, Int.mul_sub, Int.mul_sub] at a2
  rw [Int.sub_mul, Int.mul_sub, Int.mul_sub] at a3
  rw [Int.add_mul, Int.mul_add, Int.mul_add] at a4
  constructor <;> omega
theorem Mx.mul {K : Int} {x y : Zw} (h : Mx K x) (k : Mx K y) : Mx (4 * (K * K)) (x.mul y) := by
  obtain ⟨⟨a0, a1⟩, ⟨b0, b1⟩, ⟨c0, c1⟩, d0, d1⟩ := h
  obtain ⟨⟨e0, e1⟩, ⟨f0, f1⟩, ⟨g0, g1⟩, i0, i1⟩ := k
  have p1 := prod_in a0 a1 e0 e1
  have p2 := prod_in a0 a1 f0 f1
  have p3 := prod_in a0 a1 g0 g1
  have p4 := prod_in a0 a1 i0 i1
  have q1 := prod_in b0 b1 e0 e1
  have q2 := prod_in b0 b1 f0 f1
  have q3 := prod_in b0 b1 g0 g1
  have q4 := prod_in b0 b1 i0 i1
  have r1 := prod_in c0 c1 e0 e1
  have r2 := prod_in c0 c1 f0 f1
  have r3 := prod_in c0 c1 g0 g1
  have r4 := prod_in c0 c1 i0 i1
  have s1 := prod_in d0 d1 e0 e1
  have s2 := prod_in d0 d1 f0 f1
  have s3 := prod_in d0 d1 g0 g1
  have s4 := prod_in d0 d1 i0 i1
  unfold Mx Zw.mul
  simp only
  omega
theorem Mx.ok {K : Int} {x : Zw} (h : Mx K x) (hK : K ≤ 1073741824) : x.ok := by
  unfold Mx at h
  unfold Zw.ok Near
  omega
theorem upB_of : ∀ (k : Nat) {n : Zw}, (∀ i, i ≤ k → (rootN i n).ok) → upB k n = true
  | 0, _, _ => rfl
  | k + 1, n, h => by
    have h0 := h 0 (by omega)
    have h1 := h 1 (by omega)
    rw [upB, Bool.and_eq_true]
    refine ⟨?_, upB_of k fun i hi => ?_⟩
    · unfold mulB
      rw [decide_eq_true_eq]
      exact ⟨h0, by decide, by rw [mul_rootE]; exact h1⟩
    · have := h (i + 1) (by omega)
      rwa [Nat.add_comm, rootN_add] at this
/-- x is, over the root's power t, a number with small coefficients. -/
def Ov (t : Nat) (K : Int) (x : Dw) : Prop := x.ok ∧ ∃ P, rootN t (vl x) = rootN 60 P ∧ Mx K P
theorem Ov.exp {t : Nat} {K : Int} {x : Dw} (h : Ov t K x) : x.e ≤ t ∧ ∀ i, i ≤ t - x.e.toNat → Mx K (rootN i x.n) := by
  obtain ⟨hx, P, hP, hK⟩ := h
  obtain ⟨x1, x2, x3, x4⟩ := hx
  unfold vl at hP
  rw [← rootN_add] at hP
  have hle : x.e ≤ t := by
    rcases Int.lt_or_le (t : Int) x.e with hl | hl
    · exfalso
      have h1 : x.n = rootN (x.e.toNat - t) P := by
        apply rootN_inj (k := 60 - x.e.toNat + t)
        rw [hP, ← rootN_add]
        congr 1; omega
      rcases x4 with x4 | x4
      · omega
      · have hm : x.n = (rootN (x.e.toNat - t - 1) P).root := by
          rw [h1, show x.e.toNat - t = (x.e.toNat - t - 1) + 1 by omega, rootN_succ]
          congr 2
        have hd : divB x.n = true := by
          rw [divB_iff]
          refine ⟨x1, ?_⟩
          rw [hm]
          unfold Zw.even Zw.root
          simp only
          omega
        rw [x4] at hd
        cases hd
    · exact hl
  refine ⟨hle, fun i hi => ?_⟩
  have h2 : rootN (t - x.e.toNat) x.n = P := by
    apply rootN_inj (k := 60)
    rw [← hP, ← rootN_add]
    congr 1; omega
  rw [← h2, show t - x.e.toNat = i + (t - x.e.toNat - i) by omega, rootN_add] at hK
  exact hK.rootN_back _
theorem Ov.mul {t : Nat} {K : Int} {x y : Dw} (h : Ov t K x) (k : Ov t K y) (_ : K ≤ 1073741824) (h4 : 4 * (K * K) ≤ 1073741824) (ht : t ≤ 30) : dMulB x y = true ∧ Ov (2 * t) (4 * (K * K)) (dMulV x y) := by
  obtain ⟨hx, P, hP, hPK⟩ := id h
  obtain ⟨hy, Q, hQ, hQK⟩ := id k
  obtain ⟨ex, mx⟩ := h.exp
  obtain ⟨ey, my⟩ := k.exp
  have x0 := hx.2.1
  have y0 := hy.2.1
  have hmul := (mx 0 (by omega)).mul (my 0 (by omega))
  have hok : (x.n.mul y.n).ok := hmul.ok h4
  have hB : dMulB x y = true := by
    rw [dMulB_iff]
    refine ⟨hx, hy, ?_, ?_⟩
    · unfold mulB
      rw [decide_eq_true_eq]
      exact ⟨hx.1, hy.1, hok⟩
    · rw [newB_iff]
      refine ⟨hok, by omega, by omega, ?_⟩
      have := red_le (x.e + y.e).toNat (x.n.mul y.n)
      omega
  refine ⟨hB, dMulV_ok hB, P.mul Q, ?_, hPK.mul hQK⟩
  have hv := vl_mul hB
  apply rootN_inj (k := 60)
  rw [rootN_comm, hv, show 2 * t = t + t by omega, rootN_mul2, hP, hQ, ← rootN_mul2, rootN_add]
theorem Ov.add {t : Nat} {K J : Int} {x y : Dw} (h : Ov t K x) (k : Ov t J y) (hK : 0 ≤ K) (hJ : 0 ≤ J) (hs : K + J ≤ 1073741824) (ht : t ≤ 60) : dAddB x y = true ∧ Ov t (K + J) (dAddV x y) := by
  obtain ⟨hx, P, hP, hPK⟩ := id h
  obtain ⟨hy, Q, hQ, hQK⟩ := id k
  obtain ⟨ex, mx⟩ := h.exp
  obtain ⟨ey, my⟩ := k.exp
  have x0 := hx.2.1
  have y0 := hy.2.1
  obtain ⟨t1, t2, t3⟩ := topE_le x y
  have hA : Mx K (numA x y) := mx _ (by omega)
  have hBy : Mx J (numB x y) := my _ (by omega)
  have hsum := hA.add hBy
  have hok : ((numA x y).add (numB x y)).ok := hsum.ok hs
  have hB : dAddB x y = true := by
    rw [dAddB_iff]
    refine ⟨hx, hy, upB_of _ fun i hi => (mx i (by omega)).ok (by omega), upB_of _ fun i hi => (my i (by omega)).ok (by omega), ?_, ?_⟩
    · unfold addB
      rw [decide_eq_true_eq]
      exact ⟨hA.ok (by omega), hBy.ok (by omega), hok⟩
    · rw [newB_iff]
      refine ⟨hok, by omega, by omega, ?_⟩
      have := red_le (topE x y).toNat ((numA x y).add (numB x y))
      omega
  refine ⟨hB, dAddV_ok hB, P.add Q, ?_, hPK.add hQK⟩
  rw [vl_add hB, rootN_addZ, rootN_addZ, hP, hQ]
/-- The coefficients of gates one behind the other, over the root's power of the number of GateH. -/
def hs (L : List Gt) : Nat := (L.map fun g => scK g.k).sum
def cl1 (N : Nat) : List Gt → Nat → Nat → Zw
  | [], i, j => if i = j then oneZ else .zero
  | g :: L, i, j => sumZ N fun m => (cf (nums (goesG g i)) m).mul (cl1 N L m j)
theorem goes_sc {g : Gt} (hk : 1 ≤ g.k ∧ g.k ≤ 12) (i : Nat) : ∀ p ∈ goesG g i, p.2.e.toNat = scK g.k := by
  have hif : ∀ (t : Bool) (m : Int), (if t = true then dPh m else dPh 0).e.toNat = 0 := fun t m => by cases t <;> rfl
  intro p hp
  unfold goesG at hp
  rcases (show g.k = 1 ∨ g.k = 2 ∨ g.k = 3 ∨ g.k = 4 ∨ g.k = 5 ∨ g.k = 6 ∨ g.k = 7 ∨ g.k = 8 ∨ g.k = 9 ∨ g.k = 10 ∨ g.k = 11 ∨ g.k = 12 by omega) with e | e | e | e | e | e | e | e | e | e | e | e <;> rw [e] at hp ⊢
  · rw [gk1, List.mem_singleton] at hp; subst hp; rfl
  · rw [gk2, List.mem_singleton] at hp; subst hp; rfl
  · rw [gk3, List.mem_singleton] at hp; subst hp; exact hif _ _
  · rw [gk4] at hp
    rcases List.mem_cons.1 hp with rfl | hp
    · exact (by decide : (isV 1).e.toNat = 1)
    · rw [List.mem_singleton] at hp
      subst hp
      cases bitN i g.a.toNat
      · exact (by decide : (isV 1).e.toNat = 1)
      · exact (by decide : (dNegV (isV 1)).e.toNat = 1)
  · rw [gk5, List.mem_singleton] at hp; subst hp; exact hif _ _
  · rw [gk6, List.mem_singleton] at hp; subst hp; exact hif _ _
  · rw [gk7, List.mem_singleton] at hp; subst hp; exact hif _ _
  · rw [gk8, List.mem_singleton] at hp; subst hp; exact hif _ _
  · rw [gk9, List.mem_singleton] at hp; subst hp; rfl
  · rw [gk10, List.mem_singleton] at hp; subst hp; exact hif _ _
  · rw [gk11, List.mem_singleton] at hp; subst hp; rfl
  · rw [gk12, List.mem_singleton] at hp; subst hp; rfl
theorem cf_nums {s : Nat} (hs : s ≤ 1) : ∀ (L : List (Nat × Dw)) (j : Nat), (∀ p ∈ L, p.2.e.toNat = s) → cf L j = rootN (1 - s) (cf (nums L) j)
  | [], j, _ => by rw [show nums [] = [] from rfl, cf, rootN_z]
  | p :: r, j, h => by
    have ih := cf_nums hs r j fun q hq => h q (List.mem_cons_of_mem _ hq)
    rw [show nums (p :: r) = (p.1, (⟨p.2.n, 1⟩ : Dw)) :: nums r from rfl, cf, cf, ih]
    have hw : wt p.2 = rootN (1 - s) (wt ⟨p.2.n, 1⟩) := by
      unfold wt
      rw [h p (List.mem_cons_self ..)]
      rfl
    split
    · rw [hw, rootN_addZ]
    · rfl
theorem scK_le (k : Int) : scK k ≤ 1 := by unfold scK; split <;> omega
theorem hs_le : ∀ L : List Gt, hs L ≤ L.length
  | [] => Nat.le_refl _
  | g :: L => by
    have := hs_le L
    have := scK_le g.k
    rw [show hs (g :: L) = scK g.k + hs L by simp [hs], List.length_cons]
    omega
theorem hs_cons (g : Gt) (L : List Gt) : hs (g :: L) = scK g.k + hs L := by simp [hs]
theorem cl_cl1 (N : Nat) : ∀ (L : List Gt), (∀ g ∈ L, 1 ≤ g.k ∧ g.k ≤ 12) → ∀ (i j : Nat), cl N L i j = rootN (L.length - hs L) (cl1 N L i j)
  | [], _, i, j => rfl
  | g :: L, h, i, j => by
    have h1 := hs_le L
    have h2 := scK_le g.k
    rw [cl, cl1, rootN_sumZ]
    refine sumZ_congr fun m _ => ?_
    rw [cl_cl1 N L (fun g hg => h g (List.mem_cons_of_mem _ hg)) m j, cf_nums h2 _ m (goes_sc (h g (List.mem_cons_self ..)) i), ← rootN_mul2, hs_cons, List.length_cons]
    congr 1; omega
/-- The matrix of gates over the smaller power. -/
theorem cir_rep1 {L : List Gt} {n : Nat} (h1 : 1 ≤ n) (h4 : n ≤ 4) (hv : ∀ g ∈ L, gtB g n = true) (hb : cirB L n = true) : Rep (cirM L n) (2 ^ n) (hs L) (cl1 (2 ^ n) L) := by
  obtain ⟨a, b, c⟩ := cir_rep h1 h4 hb
  refine ⟨a, b, fun k hk i hi => ?_⟩
  have h := c k hk i hi
  have hl := hs_le L
  rw [cl_cl1 _ _ fun g hg => (gtB_parts (hv g hg)).2.1, rootN_comm] at h
  apply rootN_inj (k := L.length - hs L)
  rw [← h, ← rootN_add]
  congr 1; omega
end Go.Proofs.YtlmiebeffdcfhaaGreat
namespace Go.Proofs.YtlmiebeffdcfhaaGreat
/-- The paths of gates one behind the other from place i: where each ends, and its number. -/
def pth : List Gt → Nat → List (Nat × Zw)
  | [], i => [(i, oneZ)]
  | g :: L, i => (goesG g i).flatMap fun p => (pth L p.1).map fun q => (q.1, p.2.n.mul q.2)
/-- What paths give to place j. -/
def co : List (Nat × Zw) → Nat → Zw
  | [], _ => .zero
  | p :: r, j => if p.1 = j then p.2.add (co r j) else co r j
theorem co_app : ∀ (L M : List (Nat × Zw)) (j : Nat), co (L ++ M) j = (co L j).add (co M j)
  | [], M, j => by rw [List.nil_append, co, zero_add']
  | p :: r, M, j => by
    rw [List.cons_append, co, co, co_app r M j]
    split
    · rw [add_assoc']
    · rfl
theorem co_mul (z : Zw) (j : Nat) : ∀ L : List (Nat × Zw), co (L.map fun q => (q.1, z.mul q.2)) j = z.mul (co L j)
  | [] => by rw [List.map_nil, co, mul_zero']
  | p :: r => by
    rw [List.map_cons, co, co, co_mul z j r]
    split
    · rw [mul_add']
    · rfl
theorem cfs_pth (F : Nat → List (Nat × Zw)) (j : Nat) : ∀ M : List (Nat × Dw), cfs (nums M) (fun m => co (F m) j) = co (M.flatMap fun p => (F p.1).map fun q => (q.1, p.2.n.mul q.2)) j
  | [] => rfl
  | p :: r => by
    rw [show nums (p :: r) = (p.1, (⟨p.2.n, 1⟩ : Dw)) :: nums r from rfl, cfs, List.flatMap_cons, co_app, co_mul, cfs_pth F j r]
    rfl
theorem cfs_same {f f' : Nat → Zw} : ∀ {L : List (Nat × Dw)}, (∀ p ∈ L, f p.1 = f' p.1) → cfs L f = cfs L f'
  | [], _ => rfl
  | p :: r, h => by rw [cfs, cfs, h p (List.mem_cons_self ..), cfs_same fun q hq => h q (List.mem_cons_of_mem _ hq)]
theorem cl1_pth {N : Nat} : ∀ {L : List Gt}, (∀ g ∈ L, gtB g (qc N) = true) → ∀ i, i < N → ∀ j, j < N → cl1 N L i j = co (pth L i) j
  | [], _, i, hi, j, hj => by
    rw [cl1, pth, co, co, add_zero']
  | g :: L, h, i, hi, j, hj => by
    have hin : ∀ p ∈ nums (goesG g i), p.1 < N := fun p hp => by
      obtain ⟨q, hq, rfl⟩ := List.mem_map.1 hp
      exact goesG_in (h g (List.mem_cons_self ..)) hi q hq
    rw [cl1, cf_sum _ _ hin, pth, ← cfs_pth (fun m => pth L m) j]
    exact cfs_same fun p hp => cl1_pth (fun g hg => h g (List.mem_cons_of_mem _ hg)) p.1 (hin p hp) j hj
theorem cl1_app (N : Nat) : ∀ (L M : List Gt) (i j : Nat), i < N → cl1 N (L ++ M) i j = sumZ N fun m => (cl1 N L i m).mul (cl1 N M m j)
  | [], M, i, j, hi => by
    rw [List.nil_append, sumZ_one (fun m => (cl1 N [] i m).mul (cl1 N M m j)) hi fun m _ hm => by rw [cl1, if_neg fun e => hm e.symm, zero_mul']]
    rw [cl1, if_pos rfl, oneZ_mul]
  | g :: L, M, i, j, hi => by
    rw [List.cons_append, cl1]
    have h1 : ∀ m, m < N → (cf (nums (goesG g i)) m).mul (cl1 N (L ++ M) m j) = sumZ N fun q => ((cf (nums (goesG g i)) m).mul (cl1 N L m q)).mul (cl1 N M q j) := fun m hm => by
      rw [cl1_app N L M m j hm, mul_sumZ]
      exact sumZ_congr fun q _ => (mul_assoc' _ _ _).symm
    rw [sumZ_congr h1, sumZ_swap]
    refine sumZ_congr fun q _ => ?_
    rw [cl1, sumZ_mul]
theorem hs_appL (L M : List Gt) : hs (L ++ M) = hs L + hs M := by simp [hs]
theorem gt_one_all : ∀ n : Fin 4, ∀ k : Fin 8, ∀ q : Fin 4, q.val < n.val + 1 → gtB ⟨((k.val + 1 : Nat) : Int), (q.val : Nat), 0, 0⟩ ((n.val + 1 : Nat) : Int) = true := by decide +kernel
theorem gt_cx_all : ∀ n : Fin 4, ∀ q : Fin 4, ∀ r : Fin 4, q.val < n.val + 1 → r.val < n.val + 1 → q.val ≠ r.val → gtB ⟨9, (q.val : Nat), (r.val : Nat), 0⟩ ((n.val + 1 : Nat) : Int) = true := by decide +kernel
theorem gt_one {n k q : Int} (hn : 1 ≤ n ∧ n ≤ 4) (hk : 1 ≤ k ∧ k ≤ 8) (hq : 0 ≤ q ∧ q < n) : gtB ⟨k, q, 0, 0⟩ n = true := by
  have h := gt_one_all ⟨n.toNat - 1, by omega⟩ ⟨k.toNat - 1, by omega⟩ ⟨q.toNat, by omega⟩ (by simp only; omega)
  simp only at h
  rw [show ((k.toNat - 1 + 1 : Nat) : Int) = k by omega, show ((q.toNat : Nat) : Int) = q by omega, show ((n.toNat - 1 + 1 : Nat) : Int) = n by omega] at h
  exact h
theorem gt_cx {n q r : Int} (hn : 1 ≤ n ∧ n ≤ 4) (hq : 0 ≤ q ∧ q < n) (hr : 0 ≤ r ∧ r < n) (hqr : q ≠ r) : gtB ⟨9, q, r, 0⟩ n = true := by
  have h := gt_cx_all ⟨n.toNat - 1, by omega⟩ ⟨q.toNat, by omega⟩ ⟨r.toNat, by omega⟩ (by simp only; omega) (by simp only; omega) (by simp only; omega)
  simp only at h
  rw [show ((q.toNat : Nat) : Int) = q by omega, show ((r.toNat : Nat) : Int) = r by omega, show ((n.toNat - 1 + 1 : Nat) : Int) = n by omega] at h
  exact h
end Go.Proofs.YtlmiebeffdcfhaaGreat
namespace Go.Proofs.YtlmiebeffdcfhaaGreat
theorem rep_mt {M : List (List Dw)} {N s : Nat} {C : Nat → Nat → Zw} (h : Rep M N s C) (hq : 0 < qc N) (h0 : 0 < N) : mtB M = true :=
  mtB_iff.2 ⟨by rw [h.1]; exact h0, fun r hr => ⟨by rw [h.1]; exact (h.2.1 r hr).1, stB_iff.2 ⟨(h.2.1 r hr).2, by rw [(h.2.1 r hr).1]; exact hq⟩⟩⟩
end Go.Proofs.YtlmiebeffdcfhaaGreat
namespace Go.Proofs.YtlmiebeffdcfhaaGreat
theorem own_gate {g : Gt} {n : Int} (h : gtB g n = true) : ownB g.k g.a.toNat g.b.toNat g.c.toNat = true := by
  obtain ⟨hn, -, ha, hb, hc⟩ := gtB_parts h
  rcases gtB_kinds h with ⟨k1, k2, b0, c0⟩ | ⟨k1, k2, hab, c0⟩ | ⟨k, hab, hca, hcb⟩
  · have h1 := List.all_eq_true.1 own_1 g.k (by simp; omega)
    have h2 := List.all_eq_true.1 h1 g.a.toNat (List.mem_range.2 (by omega))
    rw [b0, c0]; exact h2
  · have h1 := List.all_eq_true.1 own_2 g.k (by simp; omega)
    have h2 := List.all_eq_true.1 (List.all_eq_true.1 h1 g.a.toNat (List.mem_range.2 (by omega))) g.b.toNat (List.mem_range.2 (by omega))
    rw [Bool.or_eq_true, beq_iff_eq] at h2
    rw [c0]; exact h2.resolve_left (by omega)
  · have h2 := List.all_eq_true.1 (List.all_eq_true.1 (List.all_eq_true.1 own_3 g.a.toNat (List.mem_range.2 (by omega))) g.b.toNat (List.mem_range.2 (by omega))) g.c.toNat (List.mem_range.2 (by omega))
    rw [Bool.or_eq_true, Bool.or_eq_true, Bool.or_eq_true, beq_iff_eq, beq_iff_eq, beq_iff_eq] at h2
    rw [k]
    exact h2.resolve_left (by omega)
/-- The bits of a gate's qubits. -/
def gmG (g : Gt) : Nat := gm (gqN g.k g.a.toNat g.b.toNat g.c.toNat)
theorem goes_own {g : Gt} {n : Int} (h : gtB g n = true) {i : Nat} (hi : i < 16) : ∀ p ∈ goesG g i, (p.1 ^^^ i) &&& gmG g = p.1 ^^^ i ∧ p.1 < 16 ∧ p.2.n ∈ phL := fun p hp => by
  have h1 := own_gate h
  unfold ownB at h1
  rw [Bool.and_eq_true, Bool.and_eq_true] at h1
  have h2 := List.all_eq_true.1 (List.all_eq_true.1 h1.2.1 i (List.mem_range.2 hi)) p hp
  rw [Bool.and_eq_true, Bool.and_eq_true] at h2
  exact ⟨of_decide_eq_true h2.1, of_decide_eq_true h2.2.1, of_decide_eq_true h2.2.2⟩
theorem goes_cnt {g : Gt} {n : Int} (h : gtB g n = true) {j : Nat} (hj : j < 16) : ((List.range 16).flatMap (goesG g)).countP (fun p => p.1 == j) ≤ 1 + scK g.k := by
  have h1 := own_gate h
  unfold ownB at h1
  rw [Bool.and_eq_true, Bool.and_eq_true] at h1
  have h2 := of_decide_eq_true (List.all_eq_true.1 h1.2.2 j (List.mem_range.2 hj))
  refine Nat.le_trans h2 ?_
  unfold scK
  split <;> omega
-- found
theorem Mx.turn {K : Int} {x y : Zw} (h : Mx K x) (hy : y ∈ phL) : Mx K (x.mul y) := by
  unfold Mx at h ⊢
  simp only [phL, List.mem_cons, List.not_mem_nil, or_false] at hy
  rcases hy with rfl | rfl | rfl | rfl | rfl | rfl | rfl | rfl <;> (simp only [Zw.mul]; omega)
theorem Mx.mono {K J : Int} {x : Zw} (h : Mx K x) (hKJ : K ≤ J) : Mx J x := by unfold Mx at h ⊢; omega
theorem Ov.mono {t : Nat} {K J : Int} {x : Dw} (h : Ov t K x) (hKJ : K ≤ J) : Ov t J x := by
  obtain ⟨hx, P, hP, hK⟩ := h
  exact ⟨hx, P, hP, hK.mono hKJ⟩
theorem Ov.turn {t s : Nat} {K : Int} {x y : Dw} (h : Ov t K x) (hy : y.ok) (hn : y.n ∈ phL) (hs : y.e.toNat = s) (hs1 : s ≤ 1) (hK : K ≤ 1073741824) (ht : t ≤ 59) : dMulB x y = true ∧ Ov (t + s) K (dMulV x y) := by
  obtain ⟨hx, P, hP, hPK⟩ := id h
  obtain ⟨ex, mx⟩ := h.exp
  have x0 := hx.2.1
  have y0 := hy.2.1
  have hmul : Mx K (x.n.mul y.n) := (mx 0 (by omega)).turn hn
  have hok : (x.n.mul y.n).ok := hmul.ok hK
  have hB : dMulB x y = true := by
    rw [dMulB_iff]
    refine ⟨hx, hy, ?_, ?_⟩
    · unfold mulB
      rw [decide_eq_true_eq]
      exact ⟨hx.1, hy.1, hok⟩
    · rw [newB_iff]
      refine ⟨hok, by omega, by omega, ?_⟩
      have := red_le (x.e + y.e).toNat (x.n.mul y.n)
      omega
  refine ⟨hB, dMulV_ok hB, P.mul y.n, ?_, hPK.turn hn⟩
  have hv := vl_mul hB
  have hQ : rootN s (vl y) = rootN 60 y.n := by
    unfold vl
    rw [hs, ← rootN_add]
    congr 1; omega
  apply rootN_inj (k := 60)
  rw [rootN_comm, hv, rootN_mul2, hP, hQ, ← rootN_mul2, rootN_add]
theorem send_found {x : Dw} {t s N : Nat} {K : Int} (hx : Ov t K x) (hK0 : 0 ≤ K) (hs : s ≤ 1) (ht : t ≤ 59) : ∀ (L : List (Nat × Dw)) (o : List Dw) (c : Nat → Nat), (∀ p ∈ L, p.1 < N ∧ p.2.ok ∧ p.2.n ∈ phL ∧ p.2.e.toNat = s) → o.length = N → (∀ j, j < N → Ov (t + s) ((c j : Int) * K) (o.getD j .zero)) → (∀ j, j < N → ((c j + L.countP (fun p => p.1 == j) : Nat) : Int) * K ≤ 1073741824) → K ≤ 1073741824 →
    ∃ o', sendO x L o = some o' ∧ o'.length = N ∧ ∀ j, j < N → Ov (t + s) (((c j + L.countP (fun p => p.1 == j) : Nat) : Int) * K) (o'.getD j .zero)
  | [], o, c, _, hl, ho, _, _ => ⟨o, rfl, hl, fun j hj => by simpa using ho j hj⟩
  | p :: r, o, c, hp, hl, ho, hc, hK => by
    obtain ⟨p1, p2, p3, p4⟩ := hp p (List.mem_cons_self ..)
    obtain ⟨m1, m2⟩ := hx.turn p2 p3 p4 hs hK ht
    have hcp := hc p.1 p1
    have e1 : (p :: r).countP (fun q => q.1 == p.1) = r.countP (fun q => q.1 == p.1) + 1 := by rw [List.countP_cons_of_pos (by simp)]
    have hle : (c p.1 : Int) * K + K ≤ 1073741824 := by
      have h1 : ((c p.1 + 1 : Nat) : Int) * K ≤ ((c p.1 + (p :: r).countP (fun q => q.1 == p.1) : Nat) : Int) * K := Int.mul_le_mul_of_nonneg_right (by rw [e1]; omega) hK0
      have h2 : ((c p.1 + 1 : Nat) : Int) * K = (c p.1 : Int) * K + K := by rw [Int.natCast_add, Int.add_mul]; simp
      omega
    obtain ⟨a1, a2⟩ := (ho p.1 p1).add m2 (Int.mul_nonneg (by omega) hK0) hK0 hle (by omega)
    have ih := send_found hx hK0 hs ht r (o.set p.1 (dAddV (o.getD p.1 .zero) (dMulV x p.2))) (fun j => if p.1 = j then c j + 1 else c j) (fun q hq => hp q (List.mem_cons_of_mem _ hq)) (by rw [List.length_set]; exact hl) (fun j hj => by
      rw [getD_set _ _ _ _ (by omega)]
      by_cases e : p.1 = j
      · subst e
        simp only [if_true]
        rw [show (((c p.1 + 1 : Nat) : Int)) * K = (c p.1 : Int) * K + K by rw [Int.natCast_add, Int.add_mul]; simp]
        exact a2
      · simp only [if_neg e]
        exact ho j hj) (fun j hj => by
      have := hc j hj
      rw [List.countP_cons] at this
      by_cases e : p.1 = j
      · simp only [if_pos e]
        rw [if_pos (by simp [e])] at this
        rw [show c j + 1 + List.countP (fun q => q.1 == j) r = c j + (List.countP (fun q => q.1 == j) r + 1) by omega]
        exact this
      · simp only [if_neg e]
        rw [if_neg (by simp [e])] at this
        exact this) hK
    obtain ⟨o', h1, h2, h3⟩ := ih
    refine ⟨o', ?_, h2, fun j hj => ?_⟩
    · rw [sendO, m1, a1]
      exact h1
    · have := h3 j hj
      rw [List.countP_cons]
      by_cases e : p.1 = j
      · simp only [if_pos e] at this
        rw [if_pos (by simp [e]), show c j + (List.countP (fun q => q.1 == j) r + 1) = c j + 1 + List.countP (fun q => q.1 == j) r by omega]
        exact this
      · simp only [if_neg e] at this
        rw [if_neg (by simp [e])]
        exact this
def cnt (G : Nat → List (Nat × Dw)) (i j : Nat) : Nat := ((List.range i).flatMap G).countP fun p => p.1 == j
theorem cnt_succ (G : Nat → List (Nat × Dw)) (i j : Nat) : cnt G (i + 1) j = cnt G i j + (G i).countP fun p => p.1 == j := by
  unfold cnt
  rw [List.range_succ, List.flatMap_append, List.countP_append]
  simp
theorem cnt_mono (G : Nat → List (Nat × Dw)) (j : Nat) {i k : Nat} (h : i ≤ k) : cnt G i j ≤ cnt G k j := by
  induction k with
  | zero => rw [show i = 0 by omega]; exact Nat.le_refl _
  | succ k ih =>
    rcases Nat.lt_or_ge k i with h1 | h1
    · rw [show i = k + 1 by omega]; exact Nat.le_refl _
    · rw [cnt_succ]; exact Nat.le_add_right_of_le (ih h1)
theorem ap_found {G : Nat → List (Nat × Dw)} {t s N m : Nat} {K : Int} (hK0 : 0 ≤ K) (hs : s ≤ 1) (ht : t ≤ 59) (hm : (m : Int) * K ≤ 1073741824) (hK : K ≤ 1073741824) (hG : ∀ i, i < N → ∀ p ∈ G i, p.1 < N ∧ p.2.ok ∧ p.2.n ∈ phL ∧ p.2.e.toNat = s) (hc : ∀ j, j < N → cnt G N j ≤ m) : ∀ (v : List Dw) (i : Nat) (o : List Dw), i + v.length = N → (∀ x ∈ v, Ov t K x) → o.length = N → (∀ j, j < N → Ov (t + s) ((cnt G i j : Int) * K) (o.getD j .zero)) →
    ∃ o', apO G i v o = some o' ∧ o'.length = N ∧ ∀ j, j < N → Ov (t + s) ((m : Int) * K) (o'.getD j .zero)
  | [], i, o, hi, _, hl, ho => ⟨o, rfl, hl, fun j hj => (ho j hj).mono (Int.mul_le_mul_of_nonneg_right (by have := hc j hj; rw [List.length_nil, Nat.add_zero] at hi; subst hi; omega) hK0)⟩
  | x :: v, i, o, hi, hv, hl, ho => by
    rw [List.length_cons] at hi
    have hiN : i < N := by omega
    have hb : ∀ j, j < N → ((cnt G i j + (G i).countP (fun p => p.1 == j) : Nat) : Int) * K ≤ 1073741824 := fun j hj => by
      refine Int.le_trans (Int.mul_le_mul_of_nonneg_right ?_ hK0) hm
      have h1 := cnt_mono G j (show i + 1 ≤ N by omega)
      rw [cnt_succ] at h1
      have h2 := hc j hj
      omega
    obtain ⟨o1, h1, h2, h3⟩ := send_found (hv x (List.mem_cons_self ..)) hK0 hs ht (G i) o (cnt G i) (hG i hiN) hl ho hb hK
    rw [apO]
    split
    · refine ap_found hK0 hs ht hm hK hG hc v (i + 1) o (by omega) (fun y hy => hv y (List.mem_cons_of_mem _ hy)) hl fun j hj => (ho j hj).mono (Int.mul_le_mul_of_nonneg_right ?_ hK0)
      rw [cnt_succ]; omega
    · rw [h1]
      refine ap_found hK0 hs ht hm hK hG hc v (i + 1) o1 (by omega) (fun y hy => hv y (List.mem_cons_of_mem _ hy)) h2 fun j hj => ?_
      rw [cnt_succ]
      exact h3 j hj
theorem Ov.zero (t : Nat) : Ov t 0 .zero := ⟨zero_ok, .zero, by rw [vl_zero, rootN_z, rootN_z], by unfold Mx; decide⟩
/-- A valid gate on a state of small numbers is found, and what it gives is small. -/
theorem ag_found {g : Gt} {v : List Dw} {t : Nat} {K : Int} (hst : stB v = true) (hg : gtB g (qc v.length) = true) (hv : ∀ x ∈ v, Ov t K x) (hK0 : 0 ≤ K) (hK : (1 + scK g.k : Nat) * K ≤ 1073741824) (ht : t ≤ 59) :
    agB g v = true ∧ (agV g v).length = v.length ∧ stB (agV g v) = true ∧ ∀ x ∈ agV g v, Ov (t + scK g.k) ((1 + scK g.k : Nat) * K) x := by
  have hn := (gtB_parts hg).1
  have h16 := stB_len hst
  have hK1 : K ≤ 1073741824 := by
    have h1 : ((1 : Nat) : Int) * K ≤ ((1 + scK g.k : Nat) : Int) * K := Int.mul_le_mul_of_nonneg_right (by omega) hK0
    simp at h1 hK
    omega
  have hkk := (gtB_parts hg).2.1
  obtain ⟨o, h1, h2, h3⟩ := ap_found (G := goesG g) (t := t) (s := scK g.k) (N := v.length) (m := 1 + scK g.k) hK0 (scK_le _) ht hK hK1 (fun i hi p hp => ⟨goesG_in hg hi p hp, (goesL_e _ _ _ _ _ p hp).1, (goes_own hg (by omega) p hp).2.2, goes_sc hkk i p hp⟩)
    (fun j hj => Nat.le_trans (cnt_mono _ _ h16) (goes_cnt hg (by omega))) v 0 (List.replicate v.length .zero) (by omega) hv (by simp) (fun j hj => by
      rw [rep_getD]
      exact (Ov.zero _).mono (Int.mul_nonneg (by omega) hK0))
  have hO : agO g v = some o := by
    unfold agO
    rw [hst, hg]
    exact h1
  obtain ⟨a1, -, a3⟩ := agO_val hO
  rw [agV_of hO]
  refine ⟨agB_of hO, a1, a3, fun x hx => ?_⟩
  obtain ⟨j, hj, rfl⟩ := List.mem_iff_getElem.1 hx
  have := h3 j (by omega)
  rwa [List.getD_eq_getElem?_getD, List.getElem?_eq_getElem hj] at this
theorem pow_scK {h : Nat} (k : Int) : ((1 + scK k : Nat) : Int) * 2 ^ h = 2 ^ (h + scK k) := by
  unfold scK
  split
  · rw [Int.pow_succ]; omega
  · simp
theorem pow_small : ∀ h : Nat, h ≤ 29 → (2 : Int) ^ h ≤ 536870912 := by
  intro h hh
  have : ∀ k : Fin 30, (2 : Int) ^ k.val ≤ 536870912 := by decide
  exact this ⟨h, by omega⟩
theorem agsF_found : ∀ (L : List Gt) (v : List Dw) (h : Nat), stB v = true → (∀ g ∈ L, gtB g (qc v.length) = true) → h + hs L ≤ 29 → (∀ x ∈ v, Ov h (2 ^ h) x) → (agsF L v).isSome = true
  | [], _, _, _, _, _, _ => rfl
  | g :: L, v, h, hst, hg, hh, hv => by
    rw [hs_cons] at hh
    have hle := scK_le g.k
    have h0 : (0 : Int) ≤ 2 ^ h := Int.pow_nonneg (by decide)
    have hp := pow_scK (h := h) g.k
    have hsm := pow_small (h + scK g.k) (by omega)
    obtain ⟨a1, a2, a3, a4⟩ := ag_found hst (hg g (List.mem_cons_self ..)) hv h0 (by rw [hp]; omega) (by omega)
    rw [agsF, if_pos a1]
    refine agsF_found L (agV g v) (h + scK g.k) a3 (fun x hx => by rw [a2]; exact hg x (List.mem_cons_of_mem _ hx)) (by omega) fun x hx => ?_
    rw [← hp]
    exact a4 x hx
theorem ov_one : Ov 0 1 oneD := ⟨oneD_ok, oneZ, vl_one, by unfold Mx; decide⟩
/-- Valid gates with at most 29 GateH are found at every basis state. -/
theorem cir_found {L : List Gt} {n : Nat} (h1 : 1 ≤ n) (h4 : n ≤ 4) (hv : ∀ g ∈ L, gtB g (n : Int) = true) (hh : hs L ≤ 29) : cirB L n = true := by
  unfold cirB
  rw [List.all_eq_true]
  intro i hi
  have hi := List.mem_range.1 hi
  have hl := basis_len h1 h4 hi
  have hq : qc (2 ^ n) = (n : Int) := qc_of (n := (n : Int)) (by omega)
  have hst : stB (basisL (n : Int) (i : Int)) = true := by
    refine stB_iff.2 ⟨fun x hx => ?_, by rw [hl, hq]; omega⟩
    unfold basisL at hx
    split at hx
    · rcases List.mem_or_eq_of_mem_set hx with h | rfl
      · rw [List.eq_of_mem_replicate h]; exact zero_ok
      · exact oneD_ok
    · cases hx
  have h := agsF_found L (basisL (n : Int) (i : Int)) 0 hst (by rw [hl, hq]; exact hv) (by omega) fun x hx => by
    unfold basisL at hx
    split at hx
    · rcases List.mem_or_eq_of_mem_set hx with h | rfl
      · rw [List.eq_of_mem_replicate h]; exact (Ov.zero 0).mono (by decide)
      · exact ov_one
    · cases hx
  unfold agsB agsO
  rw [if_pos hst]
  exact h
end Go.Proofs.YtlmiebeffdcfhaaGreat
namespace Go.Proofs.YtlmiebeffdcfhaaGreat
open Go.RowKit
attribute [local irreducible] World.cell?
set_option maxRecDepth 100000 in
set_option maxHeartbeats 1600000 in
theorem iclone (B : Nat) (v : Value) (l : List Dw) (w : World) (hv : DSl w B v l) (h0 : 0 < l.length) (hm : l.length ≤ 1048576) :
    Calls Tryz.prog 114 #[v] w fun e w' => ∃ r, e = .returned r ∧ DSl w' w.heap.size r l ∧ Below w.heap.size w w' := by
  obtain ⟨i0, hi, hz0, hz1, hz2⟩ := info_parts infoDw
  have qT : ∀ (w : World) (a : Option Addr) (n c n' c' : Nat), (binOp .eql 59 (.slice a n c) (.slice none n' c')).run Tryz.prog w = .ok (.bool a.isNone) w := fun w a n c n' c' => Lib.run_eql_slice_nil w _ _ a n c n' c' Tryz.underlying59
  obtain ⟨a, cap, rfl, hcap, hr⟩ := hv
  obtain ⟨g, rfl, hg, hrow⟩ := hr h0
  have Hsrc := Lib.hid (row_src (hrow.alloc (.cells #[] 70)))
  have Hown := Lib.hid (own_new (w := w) (n := w.heap.size) (t := 70) rfl)
  have Hp := Lib.hid (flat_plain l)
  have Hl := Lib.hid (flat_len l)
  clear hr hrow
  go_enter Tryz.func114, Tryz.ntmps114
  go_wp2_with (first
    | (at_builtin; refine wpList_append_own _ rfl _ _ 59 rfl w.heap.size 70 i0 (.agg #[.int .i64 0, .int .i64 0, .int .i64 0, .int .i64 0, .int .i64 0]) 5 40 Tryz.underlying59 hi hz0 hz1 hz2 rfl (by decide) _ _ _ rfl Hown.out ⟨g, 0, none⟩ l.length cap (flat l) rfl Hl.out Hsrc.out Hp.out ?d3 ?d4 ?d5 ?_))
  case d3 => unfold maxLen; omega
  case d4 => omega
  case d5 => first | omega | (simp; omega) | simp
  intro v' w4 hown' hgrow _
  have hown2 : w4.ownsRow w.heap.size 70 5 v' l.length (flat l) := by
    have h : w4.ownsRow w.heap.size 70 5 v' l.length ([] ++ flat l) := hown'
    rwa [List.nil_append] at h
  have Hs := Lib.hid (DSl.of_own hown2)
  have HB := Lib.hid (((Below.refl w.heap.size w).alloc (Nat.le_refl _) (.cells #[] 70)).grown hgrow (by simp) (fun q hq => by have := Hown.out.lt q hq; omega))
  clear hown' hown2 hgrow
  go_wp2_with fail
  go_ret
  exact ⟨_, rfl, Hs.out, HB.out⟩
set_option maxRecDepth 100000 in
set_option maxHeartbeats 3200000 in
theorem iapGs_yes (B : Nat) (a0 : Option Addr) (capg : Nat) (v : Value) (L : List Gt) (l : List Dw) (w : World) (hg : GsIn w w.heap.size a0 L) (hv : DSl w B v l) (hst : stB l = true) (hL : L.length ≤ 1048576) :
    Calls Tryz.prog 81 #[.slice a0 L.length capg, v] w fun e w' => (∃ r, e = .returned (.tuple #[r, .bool (agsB L l)]) ∧ DSl w' w.heap.size r (agsV L l)) ∧ Below w.heap.size w w' := by
  have hlen := stB_len hst
  have h2 := stB_iff.1 hst
  have hpos : 0 < l.length := by have := qc_len h2.2; omega
  have H1 := Lib.hid (ivalidSt B v l w hv (fun x hx => ok_eb (h2.1 x hx)) (by omega))
  have H2 := Lib.hid (fun W (h : DSl W B v l) => iclone B v l W h hpos (by omega))
  have H3 := Lib.hid (fun (g : Gt) (D : Nat) (u : Value) (o : List Dw) W (h : DSl W D u o) (he : ∀ x ∈ o, x.ok) (hm : o.length ≤ 1048576) => iapG D g u o W h (fun x hx => ok_eb (he x hx)) hm)
  have Hok := Lib.hid h2.1
  have Hv := Lib.hid hv
  rw [hst] at H1
  have HO := Lib.hid (show agsO L l = agsF L l by unfold agsO; rw [hst]; rfl)
  have HV := Lib.hid (show agsV L l = (agsO L l).getD [] from rfl)
  have HT := Lib.hid (show agsB L l = (agsO L l).isSome from rfl)
  generalize agsV L l = V at *
  generalize agsB L l = T at *
  generalize agsO L l = O at *
  have Hg := Lib.hid hg
  clear hst h2 hpos hg
  obtain ⟨av, capv, rfl, -, -⟩ := hv
  go_enter Tryz.func81, Tryz.ntmps81
  go_wp2_with fail
  refine (H1.out).mono ?_
  rintro e w1 ⟨rfl, hb1⟩
  have Hb1 := Lib.hid hb1
  have Hv1 := Lib.hid (Hv.out.below hb1)
  have hs1 := hb1.size
  clear hb1
  go_wp2_with fail
  refine (H2.out _ Hv1.out).mono ?_
  rintro e w2 ⟨u, rfl, hd2, hb2⟩
  have Hb2 := Lib.hid (below_nx Hb1.out hb2)
  have Hd2 := Lib.hid (hd2.mono hs1)
  have Hst := Lib.hid (show agsF (L.drop 0) l = O from HO.out.symm)
  clear hd2 hb2 H1 H2 HO
  go_wp2_with fail
  go_loopg [6, 18] L.length (fun m ov i wr => ∃ (j : Nat) (o : List Dw) (u' : Value), m = L.length - j ∧ j ≤ L.length ∧ i = .int .i64 j ∧ u' = ov ∧ o.length ≤ 16 ∧ Hid (∀ x ∈ o, x.ok) ∧ Hid (agsF (L.drop j) o = O) ∧ Hid (DSl wr w.heap.size u' o) ∧ Hid (Below w.heap.size w wr))
  case atStart => exact ⟨0, l, u, rfl, Nat.zero_le _, rfl, rfl, hlen, Hok, Hst, Hd2, Hb2⟩
  case round =>
    obtain ⟨j, o, u', rfl, hj, rfl, rfl, ho, Hok2, Hap, Hd, Hb⟩ := hrel
    have hsw := Hb.out.size
    by_cases hlt : j < L.length
    · obtain ⟨g, hx⟩ : ∃ g, L[j]? = some g := ⟨L[j], List.getElem?_eq_getElem hlt⟩
      obtain ⟨gg, off, rfl, hgB, hcl⟩ := (Hg.out.below Hb.out).2 (by omega)
      obtain ⟨c0, c1, c2, c3⟩ := hcl j g hx
      have hgl := Nat.lt_of_lt_of_le hgB hsw
      have HX := Lib.hid (heap_alloc_new wr (.cells #[.int .i64 g.k, .int .i64 g.a, .int .i64 g.b, .int .i64 g.c] 25))
      have Hb' := Lib.hid (show Below w.heap.size w (wr.alloc (.cells #[.int .i64 g.k, .int .i64 g.a, .int .i64 g.b, .int .i64 g.c] 25)) from Hb.out.alloc hsw _)
      have Hd' := Lib.hid (Hd.out.below ((Below.refl _ _).alloc (Nat.le_refl _) (.cells #[.int .i64 g.k, .int .i64 g.a, .int .i64 g.b, .int .i64 g.c] 25)))
      have hs' : w.heap.size ≤ (wr.alloc (.cells #[.int .i64 g.k, .int .i64 g.a, .int .i64 g.b, .int .i64 g.c] 25)).heap.size := by simp; omega
      have Hstep := Lib.hid (ags_step (o := o) hx)
      have hvl := agV_len g o
      have Hok3 := Lib.hid (agV_oks g o)
      have Hc := Lib.hid (H3.out g _ _ o (wr.alloc (.cells #[.int .i64 g.k, .int .i64 g.a, .int .i64 g.b, .int .i64 g.c] 25)) Hd'.out Hok2.out (by omega))
      have Hs' := Lib.hid hs'
      clear hx hcl hgB hs'
      generalize agV g o = o2 at *
      generalize agB g o = t at *
      go_wp2_with fail
      refine (Hc.out).mono ?_
      rintro e w4 ⟨⟨r, rfl, hd4⟩, hb4⟩
      have Hd4 := Lib.hid (hd4.mono Hs'.out)
      have Hb4 := Lib.hid (below_up Hb'.out hb4 Hs'.out)
      have hs4 := Hb4.out.size
      clear hd4 hb4 c0 c1 c2 c3 Hc hgl
      have h := Hstep.out.symm.trans Hap.out
      cases t with
      | true =>
        have Hn := Lib.hid (show agsF (L.drop (j + 1)) o2 = O from h)
        clear h
        go_wp2_with fail
        go_roundg (L.length - (j + 1))
        case measure => omega
        case rel => exact ⟨j + 1, o2, r, rfl, by omega, by go_num, rfl, by omega, Hok3, Hn, Hd4, Hb4⟩
      | false =>
        have hO : O = none := h.symm
        subst hO
        obtain rfl : V = [] := HV.out
        obtain rfl : T = false := HT.out
        clear h
        go_wp2_with fail
        go_returns
        exact ⟨⟨_, rfl, DSl.nil⟩, by have := Hb4.out; go_grown⟩
    · obtain rfl : j = L.length := by omega
      have hO := Hap.out
      rw [List.drop_of_length_le (Nat.le_refl _)] at hO
      obtain rfl : V = o := HV.out.trans (by rw [← hO]; rfl)
      obtain rfl : T = true := HT.out.trans (by rw [← hO]; rfl)
      clear hO
      go_wp2_with fail
      go_returns
      exact ⟨⟨_, rfl, Hd.out⟩, Hb.out⟩
set_option maxRecDepth 100000 in
set_option maxHeartbeats 1600000 in
theorem iapGs0 (B : Nat) (a0 : Option Addr) (cap : Nat) (v : Value) (L : List Gt) (l : List Dw) (w : World) (hg : GsIn w w.heap.size a0 L) (hv : DSl w B v l) (he : Eb l) (hm : l.length ≤ 1048576) (hn : L.length ≤ 1048576) : Calls Tryz.prog 81 #[.slice a0 L.length cap, v] w fun e w' => (∃ r, e = .returned (.tuple #[r, .bool (agsB L l)]) ∧ DSl w' w.heap.size r (agsV L l)) ∧ Below w.heap.size w w' := by
  cases hst : stB l with
  | true => exact iapGs_yes B a0 cap v L l w hg hv hst hn
  | false =>
    have h0 : agsO L l = none := by unfold agsO; rw [hst]; rfl
    rw [show agsB L l = false by unfold agsB; rw [h0]; rfl, show agsV L l = [] by unfold agsV; rw [h0]; rfl]
    have H1 := Lib.hid (ivalidSt B v l w hv he hm)
    rw [hst] at H1
    clear hst h0 hg he
    obtain ⟨av, capv, rfl, -, -⟩ := hv
    go_enter Tryz.func81, Tryz.ntmps81
    go_wp2_with fail
    refine (H1.out).mono ?_
    rintro e w1 ⟨rfl, hb1⟩
    have Hb1 := Lib.hid hb1
    have hs1 := hb1.size
    clear hb1
    go_wp2_with fail
    go_returns
    exact ⟨⟨_, rfl, DSl.nil⟩, by have := Hb1.out; go_grown⟩
theorem iapGs (B C : Nat) (vg v : Value) (L : List Gt) (l : List Dw) (w : World) (hg : gtE.Sl w C vg L) (hv : DSl w B v l) (he : Eb l) (hm : l.length ≤ 1048576) (hn : L.length ≤ 1048576) : Calls Tryz.prog 81 #[vg, v] w fun e w' => (∃ r, e = .returned (.tuple #[r, .bool (agsB L l)]) ∧ DSl w' w.heap.size r (agsV L l)) ∧ Below w.heap.size w w' := by
  obtain ⟨a, cap, rfl, h⟩ := GsIn.of_sl hg hn
  exact iapGs0 B a cap v L l w h hv he hm hn
end Go.Proofs.YtlmiebeffdcfhaaGreat
namespace Go.Proofs.YtlmiebeffdcfhaaGreat
open Go.RowKit
def clist1 : List Int := [3, 2, 2, 0, 4, -1]
theorem clist1_at (w : World) : ListAt (w.alloc (.cells #[.int .i64 3, .int .i64 2, .int .i64 2, .int .i64 0, .int .i64 4, .int .i64 (-1)] 3)) w.heap.size 6 (fun j => .int .i64 (clist1.getD j 0)) := by
  refine zlist_at (heap_alloc_new _ _) 6 _ ?_
  intro j hj
  rcases (show j = 0 ∨ j = 1 ∨ j = 2 ∨ j = 3 ∨ j = 4 ∨ j = 5 by omega) with rfl | rfl | rfl | rfl | rfl | rfl <;> rfl
attribute [local irreducible] World.cell?
set_option maxRecDepth 100000 in
set_option maxHeartbeats 3200000 in
theorem drawCtG (a0 : Option Addr) (len cap : Nat) (w : World) (hcode : CodeAt w w.heap.size a0 len) :
    Calls Tryz.prog 7 #[.slice a0 len cap] w fun e w' => (∃ (q : Int) (g : Gt), e = .returned (.tuple #[.int .i64 q, (.agg #[.int .i64 g.k, .int .i64 g.a, .int .i64 g.b, .int .i64 g.c])]) ∧ -1 ≤ q ∧ q ≤ 4 ∧ GtI g) ∧ Below w.heap.size w w' := by
  have Hcode := Lib.hid (show CodeAt (w.alloc (.cells #[.int .i64 0, .int .i64 0, .int .i64 0, .int .i64 0] 25)) (w.alloc (.cells #[.int .i64 0, .int .i64 0, .int .i64 0, .int .i64 0] 25)).heap.size a0 len from (hcode.below ((Below.refl _ _).alloc (Nat.le_refl _) (.cells #[.int .i64 0, .int .i64 0, .int .i64 0, .int .i64 0] 25))).mono (by simp))
  have Hr0 := Lib.hid (heap_alloc_new w (.cells #[.int .i64 0, .int .i64 0, .int .i64 0, .int .i64 0] 25))
  clear hcode
  go_enter Tryz.func7, Tryz.ntmps7
  go_wp2_with fail
  refine (new_any a0 len cap _ Hcode.out).mono ?_
  rintro e w1 ⟨rfl, hc1, hb1, hz1⟩
  have hz0 : (w.alloc (.cells #[.int .i64 0, .int .i64 0, .int .i64 0, .int .i64 0] 25)).heap.size = w.heap.size + 1 := by simp
  rw [hz0] at hc1 hz1
  have Hr1 := Lib.hid (below_blk hb1 (lt_of_block Hr0.out) Hr0.out)
  have Hc1 := Lib.hid hc1
  have Hb1 := Lib.hid (below_up (B := w.heap.size) (w := w) (by go_grown) hb1 (by simp))
  have hs1 := hb1.size
  rw [hz0] at hs1
  clear hc1 hb1
  go_wp2_with fail
  refine (below_any (w.heap.size + 1) 6 _ Hc1.out (by omega) (by omega)).mono ?_
  rintro e w2 ⟨⟨y, y0, y1, rfl⟩, hc2, ho2⟩
  have hs2 := ho2.size
  have Hr2 := Lib.hid (own_blk ho2 (by omega) Hr1.out)
  have Hc2 := Lib.hid hc2
  have Hb2 := Lib.hid (below_own Hb1.out ho2 (by omega) (by omega))
  clear hc2 ho2 Hc1 Hb1
  go_wp2_with fail
  refine (below_any (w.heap.size + 1) 4 _ Hc2.out (by omega) (by omega)).mono ?_
  rintro e w3 ⟨⟨x, x0, x1, rfl⟩, hc3, ho3⟩
  obtain ⟨k, rfl⟩ : ∃ k : Nat, x = k := ⟨x.toNat, by omega⟩
  have hs3 := ho3.size
  have Hr3 := Lib.hid (own_blk ho3 (by omega) Hr2.out)
  have Hc3 := Lib.hid hc3
  have Hb3 := Lib.hid (below_own Hb2.out ho3 (by omega) (by omega))
  clear hc3 ho3 Hc2 Hb2 Hr2
  have HG := bentG (w.heap.size + 1) (1 + k) w3 Hc3.out (by omega) (by omega) (by omega)
  rw [show ((1 + k : Nat) : Int) = 1 + (k : Int) by simp] at HG
  have HG := Lib.hid HG
  go_wp2_with fail
  refine HG.out.mono ?_
  rintro e w4 ⟨⟨g, rfl, hgi⟩, hc4, ho4⟩
  clear HG
  have hs4 := ho4.size
  have Hr4 := Lib.hid (own_blk ho4 (by omega) Hr3.out)
  have Hb4 := Lib.hid (below_own Hb3.out ho4 (by omega) (by omega))
  clear hc4 ho4 Hc3 Hb3 Hr3
  obtain ⟨r0, r1, r2, r3⟩ := blk_cells Hr4.out
  have fR := fun o => free_at Hr4.out o
  have hrl := lt_of_block Hr4.out
  go_wp2_with fail
  obtain ⟨k0', k1', k2', k3'⟩ := blk_cells (set4_at (u0 := .int .i64 g.k) (u1 := .int .i64 g.a) (u2 := .int .i64 g.b) (u3 := .int .i64 g.c) Hr4.out)
  refine bodyPost_ret (v := .tuple #[.int .i64 (y - 1), (.agg #[.int .i64 g.k, .int .i64 g.a, .int .i64 g.b, .int .i64 g.c])]) (by simp only [results, Tryz.results7]; simp [go_sem, k0', k1', k2', k3']) rfl ⟨⟨_, g, rfl, by omega, by omega, hgi⟩, ?_⟩
  have := Hb4.out
  go_grown
set_option maxRecDepth 100000 in
set_option maxHeartbeats 3200000 in
theorem drawCtGs (a0 : Option Addr) (len cap : Nat) (w : World) (hcode : CodeAt w w.heap.size a0 len) :
    Calls Tryz.prog 15 #[.slice a0 len cap] w fun e w' => (∃ (q : Int) (v : Value) (l : List Gt), e = .returned (.tuple #[.int .i64 q, v]) ∧ -1 ≤ q ∧ q ≤ 4 ∧ l.length ≤ 3 ∧ gtE.Sl w' w.heap.size v l) ∧ Below w.heap.size w w' := by
  have Hcode := Lib.hid hcode
  clear hcode
  go_enter Tryz.func15, Tryz.ntmps15
  go_wp2_with fail
  refine (new_any a0 len cap _ Hcode.out).mono ?_
  rintro e w1 ⟨rfl, hc1, hb1, hz1⟩
  have Hc1 := Lib.hid hc1
  have Hb1 := Lib.hid hb1
  have hs1 := hb1.size
  clear hc1 hb1
  go_wp2_with fail
  refine (below_any w.heap.size 2 _ Hc1.out (by omega) (by omega)).mono ?_
  rintro e w2 ⟨⟨x, x0, x1, rfl⟩, hc2, ho2⟩
  have hs2 := ho2.size
  have Hc2 := Lib.hid hc2
  have Hb2 := Lib.hid (own_below Hb1.out ho2 (by omega))
  clear hc2 ho2 Hc1 Hb1
  go_wp2_with fail
  refine (right_i w.heap.size (1 + x) 3 _ Hc2.out (by omega) (by omega) (by omega) (by omega)).mono ?_
  rintro e w3 ⟨⟨v, l, rfl, hl, hsl⟩, hc3, ho3⟩
  have hs3 := ho3.size
  have Hsl := Lib.hid hsl
  have Hc3 := Lib.hid hc3
  have Hb3 := Lib.hid (own_below Hb2.out ho3 (by omega))
  obtain ⟨p, c, rfl, -, -⟩ := id hsl
  clear hsl hc3 ho3 Hc2 Hb2
  have hfd : ∀ W : World, (Instr.field 38 (.agg #[.int .i64 (1 + x), .slice p l.length c]) 1).run Tryz.prog W = .ok (.slice p l.length c) W := fun _ => by kernel_rfl
  have HL := Lib.hid (clist1_at w3)
  have HA3 := Lib.hid (Hc3.out.own (own_alloc (own_refl w3.heap.size w3) (.cells #[.int .i64 3, .int .i64 2, .int .i64 2, .int .i64 0, .int .i64 4, .int .i64 (-1)] 3)) (by omega))
  have Hb3a := Lib.hid (Hb3.out.alloc (by omega) (.cells #[.int .i64 3, .int .i64 2, .int .i64 2, .int .i64 0, .int .i64 4, .int .i64 (-1)] 3))
  have Hsl3 := Lib.hid (Hsl.out.block (w' := w3.alloc (.cells #[.int .i64 3, .int .i64 2, .int .i64 2, .int .i64 0, .int .i64 4, .int .i64 (-1)] 3)) fun k _ hk => Below.heap_alloc _ _ _ hk)
  go_wp2_with fail
  refine (pickB w.heap.size w3.heap.size 6 6 clist1 _ HA3.out HL.out (by omega) (by omega) (by omega) rfl (-1) 4 (by decide)).mono ?_
  rintro e w4 ⟨⟨q, q0, q1, rfl⟩, hc4, ho4⟩
  have Hsl4 := Lib.hid (Hsl3.out.own ho4 (by omega))
  have Hb4 := Lib.hid (own_below Hb3a.out ho4 (by simp; omega))
  clear hc4 ho4
  go_wp2_with fail
  go_returns
  exact ⟨⟨q, _, l, rfl, q0, q1, hl, Hsl4.out.mono (by omega)⟩, Hb4.out⟩
theorem cirM_bd {L : List Gt} {n : Nat} (h : n ≤ 4) : MBd (cirM L n) := by
  have h16 : 2 ^ n ≤ 16 := by rcases (show n = 0 ∨ n = 1 ∨ n = 2 ∨ n = 3 ∨ n = 4 by omega) with rfl | rfl | rfl | rfl | rfl <;> decide
  refine ⟨?_, fun r hr => ⟨(cirM_row r hr).1.eb, by rw [(cirM_row r hr).2]; exact h16⟩⟩
  unfold cirM
  split
  · rw [colsM_len, cirC_len]; exact h16
  · exact Nat.zero_le _
end Go.Proofs.YtlmiebeffdcfhaaGreat
