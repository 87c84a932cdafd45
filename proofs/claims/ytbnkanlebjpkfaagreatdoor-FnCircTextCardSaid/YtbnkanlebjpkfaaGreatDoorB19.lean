/- B19: several of our texts in one: ApG CiL CiV CpR CpU. -/
import Derived.Test.YtbnkanlebjpkfaaGreatDoorB18
import Derived.Test.YtbnkanlebjpkfaaGreatDoorB12
import Derived.Test.YtbnkanlebjpkfaaGreatDoorB06
import Derived.Test.YtbnkanlebjpkfaaGreatDoorB13
import Derived.Test.YtbnkanlebjpkfaaGreatDoorB16
import Derived.Test.YtbnkanlebjpkfaaGreatDoorB21
import Derived.Test.YtbnkanlebjpkfaaGreatDoorB08
namespace Go.Proofs.YtbnkanlebjpkfaaGreatDoor
open Go.RowKit
theorem GsIn.empty {w : World} {B : Nat} {a : Option Addr} {l : List Gt} (h : l.length = 0) : GsIn w B a l := ⟨by omega, fun h0 => absurd h0 (by omega)⟩
attribute [local irreducible] World.cell?
end Go.Proofs.YtbnkanlebjpkfaaGreatDoor
namespace Go.Proofs.YtbnkanlebjpkfaaGreatDoor
open Go.RowKit
theorem set2_at {w : World} {b : Nat} {z0 z1 u0 u1 : Value} {t : TypeId} (h : w.heap[b]? = some (.cells #[z0, z1] t (0, 0))) : ((w.setCell ⟨b, 0, none⟩ u0).setCell ⟨b, 1, none⟩ u1).heap[b]? = some (.cells #[u0, u1] t (0, 0)) := by
  have h1 := heap_set h 0 u0
  exact heap_set h1 1 u1
attribute [local irreducible] World.cell?
end Go.Proofs.YtbnkanlebjpkfaaGreatDoor
namespace Go.Proofs.YtbnkanlebjpkfaaGreatDoor
open Go.RowKit
theorem size_alloc1 (w : World) (o : Obj) : (w.alloc o).heap.size = w.heap.size + 1 := by simp
/-- A circuit's box. -/
def CB (w : World) (b : Nat) (n : Int) (v : Value) (w' : World) : Prop := w'.cell? ⟨b, 0, none⟩ = some (.int .i64 n) ∧ w'.cell? ⟨b, 1, none⟩ = some v ∧ b < w'.heap.size ∧ Below w.heap.size w w'
theorem CB.drew {w w1 : World} {b : Nat} {n : Int} {v : Value} (h : CB w b n v w1) : CB w b n v w1.drew := let ⟨a0, a1, z, l⟩ := h; ⟨a0, a1, z, l.drew⟩
theorem CB.below {w w1 w2 : World} {b : Nat} {n : Int} {v : Value} (h : CB w b n v w1) (hb : Below w1.heap.size w1 w2) : CB w b n v w2 :=
  let ⟨a0, a1, z, l⟩ := h
  ⟨cell_below a0 hb z, cell_below a1 hb z, Nat.lt_of_lt_of_le z hb.size, below_up l hb l.size⟩
theorem cell_set {w : World} {b o g p : Nat} {u v : Value} (h : w.cell? ⟨b, o, none⟩ = some v) (hn : b ≠ g) : (w.setCell ⟨g, p, none⟩ u).cell? ⟨b, o, none⟩ = some v :=
  (World.cell?_of_block (w := w) (a := ⟨b, o, none⟩) (Below.heap_setCell w ⟨g, p, none⟩ u b (by show b ≠ g; exact hn))).trans h
theorem CB.set {w w1 : World} {b g p : Nat} {n : Int} {v u : Value} (h : CB w b n v w1) (hn : b ≠ g) (hg : w.heap.size ≤ g) : CB w b n v (w1.setCell ⟨g, p, none⟩ u) :=
  let ⟨a0, a1, z, l⟩ := h
  ⟨cell_set a0 hn, cell_set a1 hn, by simpa [World.setCell] using z, l.setCell (p := ⟨g, p, none⟩) hg u⟩
/-- Two circuits' boxes. -/
def CB2 (w : World) (a b : Nat) (n m : Int) (v u : Value) (w' : World) : Prop := w'.cell? ⟨a, 0, none⟩ = some (.int .i64 n) ∧ w'.cell? ⟨a, 1, none⟩ = some v ∧ w'.cell? ⟨b, 0, none⟩ = some (.int .i64 m) ∧ w'.cell? ⟨b, 1, none⟩ = some u ∧ a < w'.heap.size ∧ b < w'.heap.size ∧ Below w.heap.size w w'
theorem CB2.drew {w w1 : World} {a b : Nat} {n m : Int} {v u : Value} (h : CB2 w a b n m v u w1) : CB2 w a b n m v u w1.drew := let ⟨a0, a1, b0, b1, z, z', l⟩ := h; ⟨a0, a1, b0, b1, z, z', l.drew⟩
theorem CB2.below {w w1 w2 : World} {a b : Nat} {n m : Int} {v u : Value} (h : CB2 w a b n m v u w1) (hb : Below w1.heap.size w1 w2) : CB2 w a b n m v u w2 :=
  let ⟨a0, a1, b0, b1, z, z', l⟩ := h
  ⟨cell_below a0 hb z, cell_below a1 hb z, cell_below b0 hb z', cell_below b1 hb z', Nat.lt_of_lt_of_le z hb.size, Nat.lt_of_lt_of_le z' hb.size, below_up l hb l.size⟩
attribute [local irreducible] World.cell?
end Go.Proofs.YtbnkanlebjpkfaaGreatDoor
namespace Go.Proofs.YtbnkanlebjpkfaaGreatDoor
end Go.Proofs.YtbnkanlebjpkfaaGreatDoor
namespace Go.Proofs.YtbnkanlebjpkfaaGreatDoor
/-- Every coefficient lies within K. -/
def Mx (K : Int) (z : Zw) : Prop := (-K ≤ z.a ∧ z.a ≤ K) ∧ (-K ≤ z.b ∧ z.b ≤ K) ∧ (-K ≤ z.c ∧ z.c ≤ K) ∧ (-K ≤ z.d ∧ z.d ≤ K)
theorem Mx.root_back {K : Int} {z : Zw} (h : Mx K z.root) : Mx K z := by
  unfold Mx Zw.root at h
  simp only at h
  unfold Mx
  omega
theorem Mx.rootN_back {K : Int} : ∀ (k : Nat) {z : Zw}, Mx K (rootN k z) → Mx K z
  | 0, _, h => h
  | k + 1, z, h => Mx.rootN_back k (Mx.root_back (by rwa [← rootN_succ]))
theorem Mx.add {K J : Int} {x y : Zw} (h : Mx K x) (k : Mx J y) : Mx (K + J) (x.add y) := by
  unfold Mx at *
  unfold Zw.add
  simp only
  omega
theorem prod_in {K u v : Int} (h0 : -K ≤ u) (h1 : u ≤ K) (k0 : -K ≤ v) (k1 : v ≤ K) : -(K * K) ≤ u * v ∧ u * v ≤ K * K := by
  have a1 := Int.mul_nonneg (show 0 ≤ K - u by omega) (show 0 ≤ K + v by omega)
  have a2 := Int.mul_nonneg (show 0 ≤ K + u by omega) (show 0 ≤ K - v by omega)
  have a3 := Int.mul_nonneg (show 0 ≤ K - u by omega) (show 0 ≤ K - v by omega)
  have a4 := Int.mul_nonneg (show 0 ≤ K + u by omega) (show 0 ≤ K + v by omega)
  rw [Int.sub_mul, Int.mul_add, Int.mul_add] at a1
  rw [Int.add_mul, Int.mul_sub, Int.mul_sub] at a2
  rw [Int.sub_mul, Int.mul_sub, Int.mul_sub] at a3
  rw [Int.add_mul, Int.mul_add, Int.mul_add] at a4
  constructor <;> omega
theorem Mx.mul {K : Int} {x y : Zw} (h : Mx K x) (k : Mx K y) : Mx (4 * (K * K)) (x.mul y) := by
  obtain ⟨⟨a0, a1⟩, ⟨b0, b1⟩, ⟨c0, c1⟩, d0, d1⟩ := h
  obtain ⟨⟨e0, e1⟩, ⟨f0, f1⟩, ⟨g0, g1⟩, i0, i1⟩ := k
  have p1 := prod_in a0 a1 e0 e1
  have p2 := prod_in a0 a1 f0 f1
  have p3 := prod_in a0 a1 g0 g1
  have p4 := prod_in a0 a1 i0 i1
  have q1 := prod_in b0 b1 e0 e1
  have q2 := prod_in b0 b1 f0 f1
  have q3 := prod_in b0 b1 g0 g1
  have q4 := prod_in b0 b1 i0 i1
  have r1 := prod_in c0 c1 e0 e1
  have r2 := prod_in c0 c1 f0 f1
  have r3 := prod_in c0 c1 g0 g1
  have r4 := prod_in c0 c1 i0 i1
  have s1 := prod_in d0 d1 e0 e1
  have s2 := prod_in d0 d1 f0 f1
  have s3 := prod_in d0 d1 g0 g1
  have s4 := prod_in d0 d1 i0 i1
  unfold Mx Zw.mul
  simp only
  omega
theorem Mx.ok {K : Int} {x : Zw} (h : Mx K x) (hK : K ≤ 1073741824) : x.ok := by
  unfold Mx at h
  unfold Zw.ok Near
  omega
theorem upB_of : ∀ (k : Nat) {n : Zw}, (∀ i, i ≤ k → (rootN i n).ok) → upB k n = true
  | 0, _, _ => rfl
  | k + 1, n, h => by
    have h0 := h 0 (by omega)
    have h1 := h 1 (by omega)
    rw [upB, Bool.and_eq_true]
    refine ⟨?_, upB_of k fun i hi => ?_⟩
    · unfold mulB
      rw [decide_eq_true_eq]
      exact ⟨h0, by decide, by rw [mul_rootE]; exact h1⟩
    · have := h (i + 1) (by omega)
      rwa [Nat.add_comm, rootN_add] at this
/-- x is, over the root's power t, a number with small coefficients. -/
def Ov (t : Nat) (K : Int) (x : Dw) : Prop := x.ok ∧ ∃ P, rootN t (vl x) = rootN 60 P ∧ Mx K P
theorem Ov.exp {t : Nat} {K : Int} {x : Dw} (h : Ov t K x) : x.e ≤ t ∧ ∀ i, i ≤ t - x.e.toNat → Mx K (rootN i x.n) := by
  obtain ⟨hx, P, hP, hK⟩ := h
  obtain ⟨x1, x2, x3, x4⟩ := hx
  unfold vl at hP
  rw [← rootN_add] at hP
  have hle : x.e ≤ t := by
    rcases Int.lt_or_le (t : Int) x.e with hl | hl
    · exfalso
      have h1 : x.n = rootN (x.e.toNat - t) P := by
        apply rootN_inj (k := 60 - x.e.toNat + t)
        rw [hP, ← rootN_add]
        congr 1; omega
      rcases x4 with x4 | x4
      · omega
      · have hm : x.n = (rootN (x.e.toNat - t - 1) P).root := by
          rw [h1, show x.e.toNat - t = (x.e.toNat - t - 1) + 1 by omega, rootN_succ]
          congr 2
        have hd : divB x.n = true := by
          rw [divB_iff]
          refine ⟨x1, ?_⟩
          rw [hm]
          unfold Zw.even Zw.root
          simp only
          omega
        rw [x4] at hd
        cases hd
    · exact hl
  refine ⟨hle, fun i hi => ?_⟩
  have h2 : rootN (t - x.e.toNat) x.n = P := by
    apply rootN_inj (k := 60)
    rw [← hP, ← rootN_add]
    congr 1; omega
  rw [← h2, show t - x.e.toNat = i + (t - x.e.toNat - i) by omega, rootN_add] at hK
  exact hK.rootN_back _
theorem Ov.mul {t : Nat} {K : Int} {x y : Dw} (h : Ov t K x) (k : Ov t K y) (_ : K ≤ 1073741824) (h4 : 4 * (K * K) ≤ 1073741824) (ht : t ≤ 30) : dMulB x y = true ∧ Ov (2 * t) (4 * (K * K)) (dMulV x y) := by
  obtain ⟨hx, P, hP, hPK⟩ := id h
  obtain ⟨hy, Q, hQ, hQK⟩ := id k
  obtain ⟨ex, mx⟩ := h.exp
  obtain ⟨ey, my⟩ := k.exp
  have x0 := hx.2.1
  have y0 := hy.2.1
  have hmul := (mx 0 (by omega)).mul (my 0 (by omega))
  have hok : (x.n.mul y.n).ok := hmul.ok h4
  have hB : dMulB x y = true := by
    rw [dMulB_iff]
    refine ⟨hx, hy, ?_, ?_⟩
    · unfold mulB
      rw [decide_eq_true_eq]
      exact ⟨hx.1, hy.1, hok⟩
    · rw [newB_iff]
      refine ⟨hok, by omega, by omega, ?_⟩
      have := red_le (x.e + y.e).toNat (x.n.mul y.n)
      omega
  refine ⟨hB, dMulV_ok hB, P.mul Q, ?_, hPK.mul hQK⟩
  have hv := vl_mul hB
  apply rootN_inj (k := 60)
  rw [rootN_comm, hv, show 2 * t = t + t by omega, rootN_mul2, hP, hQ, ← rootN_mul2, rootN_add]
theorem Ov.add {t : Nat} {K J : Int} {x y : Dw} (h : Ov t K x) (k : Ov t J y) (hK : 0 ≤ K) (hJ : 0 ≤ J) (hs : K + J ≤ 1073741824) (ht : t ≤ 60) : dAddB x y = true ∧ Ov t (K + J) (dAddV x y) := by
  obtain ⟨hx, P, hP, hPK⟩ := id h
  obtain ⟨hy, Q, hQ, hQK⟩ := id k
  obtain ⟨ex, mx⟩ := h.exp
  obtain ⟨ey, my⟩ := k.exp
  have x0 := hx.2.1
  have y0 := hy.2.1
  obtain ⟨t1, t2, t3⟩ := topE_le x y
  have hA : Mx K (numA x y) := mx _ (by omega)
  have hBy : Mx J (numB x y) := my _ (by omega)
  have hsum := hA.add hBy
  have hok : ((numA x y).add (numB x y)).ok := hsum.ok hs
  have hB : dAddB x y = true := by
    rw [dAddB_iff]
    refine ⟨hx, hy, upB_of _ fun i hi => (mx i (by omega)).ok (by omega), upB_of _ fun i hi => (my i (by omega)).ok (by omega), ?_, ?_⟩
    · unfold addB
      rw [decide_eq_true_eq]
      exact ⟨hA.ok (by omega), hBy.ok (by omega), hok⟩
    · rw [newB_iff]
      refine ⟨hok, by omega, by omega, ?_⟩
      have := red_le (topE x y).toNat ((numA x y).add (numB x y))
      omega
  refine ⟨hB, dAddV_ok hB, P.add Q, ?_, hPK.add hQK⟩
  rw [vl_add hB, rootN_addZ, rootN_addZ, hP, hQ]
/-- The coefficients of gates one behind the other, over the root's power of the number of GateH. -/
def hs (L : List Gt) : Nat := (L.map fun g => scK g.k).sum
theorem scK_le (k : Int) : scK k ≤ 1 := by unfold scK; split <;> omega
theorem hs_le : ∀ L : List Gt, hs L ≤ L.length
  | [] => Nat.le_refl _
  | g :: L => by
    have := hs_le L
    have := scK_le g.k
    rw [show hs (g :: L) = scK g.k + hs L by simp [hs], List.length_cons]
    omega
theorem hs_cons (g : Gt) (L : List Gt) : hs (g :: L) = scK g.k + hs L := by simp [hs]
end Go.Proofs.YtbnkanlebjpkfaaGreatDoor
