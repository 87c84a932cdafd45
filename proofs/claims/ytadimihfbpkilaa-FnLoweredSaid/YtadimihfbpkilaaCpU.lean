/- Plain: bounds on the coefficients of fractions over a common denominator; the matrix of a circuit of few GateH is unitary, within the limits. -/
import Derived.Test.YtadimihfbpkilaaBaseB20
namespace Go.Proofs.Ytadimihfbpkilaa
/-- Every coefficient lies within K. -/
def Mx (K : Int) (z : Zw) : Prop := (-K ≤ z.a ∧ z.a ≤ K) ∧ (-K ≤ z.b ∧ z.b ≤ K) ∧ (-K ≤ z.c ∧ z.c ≤ K) ∧ (-K ≤ z.d ∧ z.d ≤ K)
theorem Mx.root_back {K : Int} {z : Zw} (h : Mx K z.root) : Mx K z := by
  unfold Mx Zw.root at h
  simp only at h
  unfold Mx
  omega
theorem Mx.rootN_back {K : Int} : ∀ (k : Nat) {z : Zw}, Mx K (rootN k z) → Mx K z
  | 0, _, h => h
  | k + 1, z, h => Mx.rootN_back k (Mx.root_back (by rwa [← rootN_succ]))
theorem Mx.add {K J : Int} {x y : Zw} (h : Mx K x) (k : Mx J y) : Mx (K + J) (x.add y) := by
  unfold Mx at *
  unfold Zw.add
  simp only
  omega
theorem prod_in {K u v : Int} (h0 : -K ≤ u) (h1 : u ≤ K) (k0 : -K ≤ v) (k1 : v ≤ K) : -(K * K) ≤ u * v ∧ u * v ≤ K * K := by
  have a1 := Int.mul_nonneg (show 0 ≤ K - u by omega) (show 0 ≤ K + v by omega)
  have a2 := Int.mul_nonneg (show 0 ≤ K + u by omega) (show 0 ≤ K - v by omega)
  have a3 := Int.mul_nonneg (show 0 ≤ K - u by omega) (show 0 ≤ K - v by omega)
  have a4 := Int.mul_nonneg (show 0 ≤ K + u by omega) (show 0 ≤ K + v by omega)
  rw [Int.sub_mul, Int.mul_add, Int.mul_add] at a1
  rw [Int.add_mul, Int.mul_sub, Int.mul_sub] at a2
  rw [Int.sub_mul, Int.mul_sub, Int.mul_sub] at a3
  rw [Int.add_mul, Int.mul_add, Int.mul_add] at a4
  constructor <;> omega
theorem Mx.mul {K : Int} {x y : Zw} (h : Mx K x) (k : Mx K y) : Mx (4 * (K * K)) (x.mul y) := by
  obtain ⟨⟨a0, a1⟩, ⟨b0, b1⟩, ⟨c0, c1⟩, d0, d1⟩ := h
  obtain ⟨⟨e0, e1⟩, ⟨f0, f1⟩, ⟨g0, g1⟩, i0, i1⟩ := k
  have p1 := prod_in a0 a1 e0 e1
  have p2 := prod_in a0 a1 f0 f1
  have p3 := prod_in a0 a1 g0 g1
  have p4 := prod_in a0 a1 i0 i1
  have q1 := prod_in b0 b1 e0 e1
  have q2 := prod_in b0 b1 f0 f1
  have q3 := prod_in b0 b1 g0 g1
  have q4 := prod_in b0 b1 i0 i1
  have r1 := prod_in c0 c1 e0 e1
  have r2 := prod_in c0 c1 f0 f1
  have r3 := prod_in c0 c1 g0 g1
  have r4 := prod_in c0 c1 i0 i1
  have s1 := prod_in d0 d1 e0 e1
  have s2 := prod_in d0 d1 f0 f1
  have s3 := prod_in d0 d1 g0 g1
  have s4 := prod_in d0 d1 i0 i1
  unfold Mx Zw.mul
  simp only
  omega
theorem Mx.conj {K : Int} {x : Zw} (h : Mx K x) : Mx K x.conj := by
  unfold Mx at *
  unfold Zw.conj
  simp only
  omega
theorem Mx.ok {K : Int} {x : Zw} (h : Mx K x) (hK : K ≤ 1073741824) : x.ok := by
  unfold Mx at h
  unfold Zw.ok Near
  omega
theorem upB_of : ∀ (k : Nat) {n : Zw}, (∀ i, i ≤ k → (rootN i n).ok) → upB k n = true
  | 0, _, _ => rfl
  | k + 1, n, h => by
    have h0 := h 0 (by omega)
    have h1 := h 1 (by omega)
    rw [upB, Bool.and_eq_true]
    refine ⟨?_, upB_of k fun i hi => ?_⟩
    · unfold mulB
      rw [decide_eq_true_eq]
      exact ⟨h0, by decide, by rw [mul_rootE]; exact h1⟩
    · have := h (i + 1) (by omega)
      rwa [Nat.add_comm, rootN_add] at this
/-- x is, over the root's power t, a number with small coefficients. -/
def Ov (t : Nat) (K : Int) (x : Dw) : Prop := x.ok ∧ ∃ P, rootN t (vl x) = rootN 60 P ∧ Mx K P
theorem Ov.exp {t : Nat} {K : Int} {x : Dw} (h : Ov t K x) : x.e ≤ t ∧ ∀ i, i ≤ t - x.e.toNat → Mx K (rootN i x.n) := by
  obtain ⟨hx, P, hP, hK⟩ := h
  obtain ⟨x1, x2, x3, x4⟩ := hx
  unfold vl at hP
  rw [← rootN_add] at hP
  have hle : x.e ≤ t := by
    rcases Int.lt_or_le (t : Int) x.e with hl | hl
    · exfalso
      have h1 : x.n = rootN (x.e.toNat - t) P := by
        apply rootN_inj (k := 60 - x.e.toNat + t)
        rw [hP, ← rootN_add]
        congr 1; omega
      rcases x4 with x4 | x4
      · omega
      · have hm : x.n = (rootN (x.e.toNat - t - 1) P).root := by
          rw [h1, show x.e.toNat - t = (x.e.toNat - t - 1) + 1 by omega, rootN_succ]
          congr 2
        have hd : divB x.n = true := by
          rw [divB_iff]
          refine ⟨x1, ?_⟩
          rw [hm]
          unfold Zw.even Zw.root
          simp only
          omega
        rw [x4] at hd
        cases hd
    · exact hl
  refine ⟨hle, fun i hi => ?_⟩
  have h2 : rootN (t - x.e.toNat) x.n = P := by
    apply rootN_inj (k := 60)
    rw [← hP, ← rootN_add]
    congr 1; omega
  rw [← h2, show t - x.e.toNat = i + (t - x.e.toNat - i) by omega, rootN_add] at hK
  exact hK.rootN_back _
theorem Ov.mul {t : Nat} {K : Int} {x y : Dw} (h : Ov t K x) (k : Ov t K y) (_ : K ≤ 1073741824) (h4 : 4 * (K * K) ≤ 1073741824) (ht : t ≤ 30) : dMulB x y = true ∧ Ov (2 * t) (4 * (K * K)) (dMulV x y) := by
  obtain ⟨hx, P, hP, hPK⟩ := id h
  obtain ⟨hy, Q, hQ, hQK⟩ := id k
  obtain ⟨ex, mx⟩ := h.exp
  obtain ⟨ey, my⟩ := k.exp
  have x0 := hx.2.1
  have y0 := hy.2.1
  have hmul := (mx 0 (by omega)).mul (my 0 (by omega))
  have hok : (x.n.mul y.n).ok := hmul.ok h4
  have hB : dMulB x y = true := by
    rw [dMulB_iff]
    refine ⟨hx, hy, ?_, ?_⟩
    · unfold mulB
      rw [decide_eq_true_eq]
      exact ⟨hx.1, hy.1, hok⟩
    · rw [newB_iff]
      refine ⟨hok, by omega, by omega, ?_⟩
      have := red_le (x.e + y.e).toNat (x.n.mul y.n)
      omega
  refine ⟨hB, dMulV_ok hB, P.mul Q, ?_, hPK.mul hQK⟩
  have hv := vl_mul hB
  apply rootN_inj (k := 60)
  rw [rootN_comm, hv, show 2 * t = t + t by omega, rootN_mul2, hP, hQ, ← rootN_mul2, rootN_add]
theorem Ov.add {t : Nat} {K J : Int} {x y : Dw} (h : Ov t K x) (k : Ov t J y) (hK : 0 ≤ K) (hJ : 0 ≤ J) (hs : K + J ≤ 1073741824) (ht : t ≤ 60) : dAddB x y = true ∧ Ov t (K + J) (dAddV x y) := by
  obtain ⟨hx, P, hP, hPK⟩ := id h
  obtain ⟨hy, Q, hQ, hQK⟩ := id k
  obtain ⟨ex, mx⟩ := h.exp
  obtain ⟨ey, my⟩ := k.exp
  have x0 := hx.2.1
  have y0 := hy.2.1
  obtain ⟨t1, t2, t3⟩ := topE_le x y
  have hA : Mx K (numA x y) := mx _ (by omega)
  have hBy : Mx J (numB x y) := my _ (by omega)
  have hsum := hA.add hBy
  have hok : ((numA x y).add (numB x y)).ok := hsum.ok hs
  have hB : dAddB x y = true := by
    rw [dAddB_iff]
    refine ⟨hx, hy, upB_of _ fun i hi => (mx i (by omega)).ok (by omega), upB_of _ fun i hi => (my i (by omega)).ok (by omega), ?_, ?_⟩
    · unfold addB
      rw [decide_eq_true_eq]
      exact ⟨hA.ok (by omega), hBy.ok (by omega), hok⟩
    · rw [newB_iff]
      refine ⟨hok, by omega, by omega, ?_⟩
      have := red_le (topE x y).toNat ((numA x y).add (numB x y))
      omega
  refine ⟨hB, dAddV_ok hB, P.add Q, ?_, hPK.add hQK⟩
  rw [vl_add hB, rootN_addZ, rootN_addZ, hP, hQ]
theorem mrow_ov {t : Nat} {K : Int} (hK0 : 0 ≤ K) (hK : K ≤ 1073741824) (ht : t ≤ 30) : ∀ (l : List (Dw × Dw)) (s : Dw) (S : Int), (∀ p ∈ l, Ov t K p.1 ∧ Ov t K p.2) → 0 ≤ S → Ov (2 * t) S s → S + (l.length : Int) * (4 * (K * K)) ≤ 1073741824 → (mrow s l).isSome = true
  | [], _, _, _, _, _, _ => rfl
  | p :: r, s, S, h, hS, hs, hl => by
    have hkk : 0 ≤ K * K := Int.mul_nonneg hK0 hK0
    have hrl : 0 ≤ (r.length : Int) * (4 * (K * K)) := Int.mul_nonneg (by omega) (by omega)
    rw [List.length_cons, show ((r.length + 1 : Nat) : Int) * (4 * (K * K)) = (r.length : Int) * (4 * (K * K)) + 4 * (K * K) by rw [Int.natCast_add, Int.add_mul]; simp] at hl
    have h' := fun q hq => h q (List.mem_cons_of_mem _ hq)
    rw [mrow]
    split
    · exact mrow_ov hK0 hK ht r s S h' hS hs (by omega)
    · obtain ⟨p1, p2⟩ := h p (List.mem_cons_self ..)
      obtain ⟨m1, m2⟩ := p1.mul p2 hK (by omega) ht
      obtain ⟨a1, a2⟩ := hs.add m2 hS (by omega) (by omega) (by omega)
      rw [m1, a1, Bool.and_self, if_pos rfl]
      exact mrow_ov hK0 hK ht r _ _ h' (by omega) a2 (by omega)
/-- The coefficients of gates one behind the other, over the root's power of the number of GateH. -/
def hs (L : List Gt) : Nat := (L.map fun g => scK g.k).sum
def cl1 (N : Nat) : List Gt → Nat → Nat → Zw
  | [], i, j => if i = j then oneZ else .zero
  | g :: L, i, j => sumZ N fun m => (cf (nums (goesG g i)) m).mul (cl1 N L m j)
theorem dPh_e (m : Int) : (dPh m).e = 0 := rfl
theorem goes_sc {g : Gt} (hk : 1 ≤ g.k ∧ g.k ≤ 12) (i : Nat) : ∀ p ∈ goesG g i, p.2.e.toNat = scK g.k := by
  have hif : ∀ (t : Bool) (m : Int), (if t = true then dPh m else dPh 0).e.toNat = 0 := fun t m => by cases t <;> rfl
  intro p hp
  unfold goesG at hp
  rcases (show g.k = 1 ∨ g.k = 2 ∨ g.k = 3 ∨ g.k = 4 ∨ g.k = 5 ∨ g.k = 6 ∨ g.k = 7 ∨ g.k = 8 ∨ g.k = 9 ∨ g.k = 10 ∨ g.k = 11 ∨ g.k = 12 by omega) with e | e | e | e | e | e | e | e | e | e | e | e <;> rw [e] at hp ⊢
  · rw [gk1, List.mem_singleton] at hp; subst hp; rfl
  · rw [gk2, List.mem_singleton] at hp; subst hp; rfl
  · rw [gk3, List.mem_singleton] at hp; subst hp; exact hif _ _
  · rw [gk4] at hp
    rcases List.mem_cons.1 hp with rfl | hp
    · exact (by decide : (isV 1).e.toNat = 1)
    · rw [List.mem_singleton] at hp
      subst hp
      cases bitN i g.a.toNat
      · exact (by decide : (isV 1).e.toNat = 1)
      · exact (by decide : (dNegV (isV 1)).e.toNat = 1)
  · rw [gk5, List.mem_singleton] at hp; subst hp; exact hif _ _
  · rw [gk6, List.mem_singleton] at hp; subst hp; exact hif _ _
  · rw [gk7, List.mem_singleton] at hp; subst hp; exact hif _ _
  · rw [gk8, List.mem_singleton] at hp; subst hp; exact hif _ _
  · rw [gk9, List.mem_singleton] at hp; subst hp; rfl
  · rw [gk10, List.mem_singleton] at hp; subst hp; exact hif _ _
  · rw [gk11, List.mem_singleton] at hp; subst hp; rfl
  · rw [gk12, List.mem_singleton] at hp; subst hp; rfl
theorem cf_nums {s : Nat} (hs : s ≤ 1) : ∀ (L : List (Nat × Dw)) (j : Nat), (∀ p ∈ L, p.2.e.toNat = s) → cf L j = rootN (1 - s) (cf (nums L) j)
  | [], j, _ => by rw [show nums [] = [] from rfl, cf, rootN_z]
  | p :: r, j, h => by
    have ih := cf_nums hs r j fun q hq => h q (List.mem_cons_of_mem _ hq)
    rw [show nums (p :: r) = (p.1, (⟨p.2.n, 1⟩ : Dw)) :: nums r from rfl, cf, cf, ih]
    have hw : wt p.2 = rootN (1 - s) (wt ⟨p.2.n, 1⟩) := by
      unfold wt
      rw [h p (List.mem_cons_self ..)]
      rfl
    split
    · rw [hw, rootN_addZ]
    · rfl
theorem scK_le (k : Int) : scK k ≤ 1 := by unfold scK; split <;> omega
theorem hs_le : ∀ L : List Gt, hs L ≤ L.length
  | [] => Nat.le_refl _
  | g :: L => by
    have := hs_le L
    have := scK_le g.k
    rw [show hs (g :: L) = scK g.k + hs L by simp [hs], List.length_cons]
    omega
theorem hs_cons (g : Gt) (L : List Gt) : hs (g :: L) = scK g.k + hs L := by simp [hs]
theorem cl_cl1 (N : Nat) : ∀ (L : List Gt), (∀ g ∈ L, 1 ≤ g.k ∧ g.k ≤ 12) → ∀ (i j : Nat), cl N L i j = rootN (L.length - hs L) (cl1 N L i j)
  | [], _, i, j => rfl
  | g :: L, h, i, j => by
    have h1 := hs_le L
    have h2 := scK_le g.k
    rw [cl, cl1, rootN_sumZ]
    refine sumZ_congr fun m _ => ?_
    rw [cl_cl1 N L (fun g hg => h g (List.mem_cons_of_mem _ hg)) m j, cf_nums h2 _ m (goes_sc (h g (List.mem_cons_self ..)) i), ← rootN_mul2, hs_cons, List.length_cons]
    congr 1; omega
/-- The matrix of gates over the smaller power. -/
theorem cir_rep1 {L : List Gt} {n : Nat} (h1 : 1 ≤ n) (h4 : n ≤ 4) (hv : ∀ g ∈ L, gtB g n = true) (hb : cirB L n = true) : Rep (cirM L n) (2 ^ n) (hs L) (cl1 (2 ^ n) L) := by
  obtain ⟨a, b, c⟩ := cir_rep h1 h4 hb
  refine ⟨a, b, fun k hk i hi => ?_⟩
  have h := c k hk i hi
  have hl := hs_le L
  rw [cl_cl1 _ _ fun g hg => (gtB_parts (hv g hg)).2.1, rootN_comm] at h
  apply rootN_inj (k := L.length - hs L)
  rw [← h, ← rootN_add]
  congr 1; omega
theorem conj_zeroZ : Zw.zero.conj = .zero := rfl
theorem conj_sumZ (n : Nat) (f : Nat → Zw) : (sumZ n f).conj = sumZ n fun i => (f i).conj := by
  induction n with
  | zero => rfl
  | succ n ih => rw [sumZ, sumZ, conj_addZ, ih]
/-- The coefficients are unitary. -/
theorem cl1_uni {n : Int} {N : Nat} (hN : N = 2 ^ n.toNat) (h16 : N ≤ 16) (hq : qc N = n) : ∀ (L : List Gt), (∀ g ∈ L, gtB g n = true) → ∀ i, i < N → ∀ k, k < N → sumZ N (fun m => (cl1 N L i m).mul (cl1 N L k m).conj) = if i = k then rootN (2 * hs L) oneZ else .zero
  | [], _, i, hi, k, hk => by
    rw [sumZ_one (fun m => (cl1 N [] i m).mul (cl1 N [] k m).conj) hi fun m _ hm => by rw [cl1, if_neg fun e => hm e.symm, zero_mul'], cl1, if_pos rfl, oneZ_mul, cl1]
    by_cases e : i = k
    · rw [if_pos e, if_pos e.symm]; rfl
    · rw [if_neg e, if_neg fun x => e x.symm]; rfl
  | g :: L, h, i, hi, k, hk => by
    have hg := h g (List.mem_cons_self ..)
    have ih := cl1_uni hN h16 hq L fun g' hg' => h g' (List.mem_cons_of_mem _ hg')
    have hin : ∀ i, i < N → ∀ p ∈ nums (goesG g i), p.1 < N := fun i hi p hp => by
      obtain ⟨q, hq', rfl⟩ := List.mem_map.1 hp
      exact goesG_in (by rw [hq]; exact hg) hi q hq'
    have e1 : ∀ m, m < N → (cl1 N (g :: L) i m).mul (cl1 N (g :: L) k m).conj = sumZ N fun q => sumZ N fun r => ((cf (nums (goesG g i)) q).mul ((cf (nums (goesG g k)) r).conj)).mul ((cl1 N L q m).mul (cl1 N L r m).conj) := fun m _ => by
      rw [cl1, cl1, conj_sumZ, sumZ_mul]
      refine sumZ_congr fun q _ => ?_
      rw [mul_sumZ]
      refine sumZ_congr fun r _ => ?_
      rw [← conj_mul]
      apply Zw.ext4 <;> simp only [Zw.mul, Zw.conj] <;> grind
    rw [sumZ_congr e1, sumZ_swap]
    have e2 : ∀ q, q < N → sumZ N (fun m => sumZ N fun r => ((cf (nums (goesG g i)) q).mul ((cf (nums (goesG g k)) r).conj)).mul ((cl1 N L q m).mul (cl1 N L r m).conj)) = ((cf (nums (goesG g i)) q).mul ((cf (nums (goesG g k)) q).conj)).mul (rootN (2 * hs L) oneZ) := fun q hq' => by
      rw [sumZ_swap]
      have e3 : ∀ r, r < N → sumZ N (fun m => ((cf (nums (goesG g i)) q).mul ((cf (nums (goesG g k)) r).conj)).mul ((cl1 N L q m).mul (cl1 N L r m).conj)) = ((cf (nums (goesG g i)) q).mul ((cf (nums (goesG g k)) r).conj)).mul (if q = r then rootN (2 * hs L) oneZ else .zero) := fun r hr => by
        rw [← mul_sumZ, ih q hq' r hr]
      rw [sumZ_congr e3, sumZ_one (fun r => ((cf (nums (goesG g i)) q).mul ((cf (nums (goesG g k)) r).conj)).mul (if q = r then rootN (2 * hs L) oneZ else .zero)) hq' fun r _ hr => by rw [if_neg fun e => hr e.symm, mul_zero'], if_pos rfl]
    rw [sumZ_congr e2, ← sumZ_mul, cf_sum (fun m => (cf (nums (goesG g k)) m).conj) _ (hin i hi), goes_uni hg (by omega) (by omega)]
    by_cases e : i = k
    · rw [if_pos e, if_pos e, ← rootN_mul2, oneZ_mul, hs_cons, Nat.mul_add]
    · rw [if_neg e, if_neg e, zero_mul']
/-- One square among squares. -/
theorem sumZ_part {f : Nat → Zw} : ∀ {n : Nat}, (∀ i, i < n → 0 ≤ (f i).a) → 0 ≤ (sumZ n f).a ∧ ∀ k, k < n → (f k).a ≤ (sumZ n f).a
  | 0, _ => ⟨Int.le_refl _, fun k hk => absurd hk (Nat.not_lt_zero _)⟩
  | n + 1, h => by
    obtain ⟨h1, h2⟩ := sumZ_part (n := n) fun i hi => h i (by omega)
    have hn := h n (by omega)
    have e : (sumZ (n + 1) f).a = (sumZ n f).a + (f n).a := rfl
    refine ⟨by omega, fun k hk => ?_⟩
    rcases Nat.lt_succ_iff_lt_or_eq.1 hk with hk | rfl
    · have := h2 k hk; omega
    · omega
theorem norm_a (z : Zw) : (z.mul z.conj).a = z.a * z.a + z.b * z.b + z.c * z.c + z.d * z.d := by
  simp only [Zw.mul, Zw.conj]
  rw [Int.mul_neg, Int.mul_neg, Int.mul_neg]
  omega
theorem sq_in {u T K : Int} (hK : 0 ≤ K) (h : u * u ≤ T) (hT : T < (K + 1) * (K + 1)) : -K ≤ u ∧ u ≤ K := by
  constructor
  · rcases Int.lt_or_le u (-K) with hl | hl
    · exfalso
      have := Int.mul_le_mul (show K + 1 ≤ -u by omega) (show K + 1 ≤ -u by omega) (by omega) (by omega)
      rw [Int.neg_mul_neg] at this
      omega
    · exact hl
  · rcases Int.lt_or_le K u with hl | hl
    · exfalso
      have := Int.mul_le_mul (show K + 1 ≤ u by omega) (show K + 1 ≤ u by omega) (by omega) (by omega)
      omega
    · exact hl
theorem sq_nonneg' (a : Int) : 0 ≤ a * a := by
  rcases Int.le_total 0 a with h | h
  · exact Int.mul_nonneg h h
  · have := Int.mul_nonneg (show 0 ≤ -a by omega) (show 0 ≤ -a by omega)
    rwa [Int.neg_mul_neg] at this
theorem Mx_norm {z : Zw} {T K : Int} (hK : 0 ≤ K) (h : (z.mul z.conj).a ≤ T) (hT : T < (K + 1) * (K + 1)) : Mx K z := by
  rw [norm_a] at h
  have ha := sq_nonneg' z.a
  have hb := sq_nonneg' z.b
  have hc := sq_nonneg' z.c
  have hd := sq_nonneg' z.d
  exact ⟨sq_in hK (by omega) hT, sq_in hK (by omega) hT, sq_in hK (by omega) hT, sq_in hK (by omega) hT⟩
theorem pow_root : ∀ h : Fin 15, (rootN (2 * h.val) oneZ).a < (128 + 1) * (128 + 1) := by decide +kernel
end Go.Proofs.Ytadimihfbpkilaa
