/- BaseB11: several of our texts in one: CpN CpR CpU CiS CiT ApG CiL CiV GxL GxO ApKp. -/
import Derived.Test.YtckfklpgnneodaaGreatBaseB10
import Derived.Test.YtckfklpgnneodaaGreatBaseB17
import Derived.Test.YtckfklpgnneodaaGreatBaseB08
import Derived.Test.YtckfklpgnneodaaGreatBaseB06
import Derived.Test.YtckfklpgnneodaaGreatBaseB05
import Derived.Test.YtckfklpgnneodaaGreatBaseB07
import Derived.Laws.StructEq
import Derived.Test.YtckfklpgnneodaaGreatBaseB14
import Derived.Deep.Slices
import Derived.Test.YtckfklpgnneodaaGreatBaseB04
namespace Go.Proofs.YtckfklpgnneodaaGreat
/-- The root's power below a gate's numerators. -/
def scK (k : Int) : Nat := if k = 4 then 1 else 0
end Go.Proofs.YtckfklpgnneodaaGreat
namespace Go.Proofs.YtckfklpgnneodaaGreat
theorem gk1 (A B C i : Nat) : goesL 1 A B C i = [(flipN i A, dPh 0)] := rfl
theorem gk2 (A B C i : Nat) : goesL 2 A B C i = [(flipN i A, dPh (if bitN i A then 6 else 2))] := rfl
theorem gk3 (A B C i : Nat) : goesL 3 A B C i = [(i, if bitN i A then dPh 4 else dPh 0)] := rfl
theorem gk4 (A B C i : Nat) : goesL 4 A B C i = [(lowN i A, isV 1), (flipN (lowN i A) A, if bitN i A then dNegV (isV 1) else isV 1)] := rfl
theorem gk5 (A B C i : Nat) : goesL 5 A B C i = [(i, if bitN i A then dPh 2 else dPh 0)] := rfl
theorem gk6 (A B C i : Nat) : goesL 6 A B C i = [(i, if bitN i A then dPh 6 else dPh 0)] := rfl
theorem gk7 (A B C i : Nat) : goesL 7 A B C i = [(i, if bitN i A then dPh 1 else dPh 0)] := rfl
theorem gk8 (A B C i : Nat) : goesL 8 A B C i = [(i, if bitN i A then dPh 7 else dPh 0)] := rfl
theorem gk9 (A B C i : Nat) : goesL 9 A B C i = [(if bitN i A then flipN i B else i, dPh 0)] := rfl
theorem gk10 (A B C i : Nat) : goesL 10 A B C i = [(i, if (bitN i A && bitN i B) then dPh 4 else dPh 0)] := rfl
theorem gk11 (A B C i : Nat) : goesL 11 A B C i = [(if bitN i A != bitN i B then flipN (flipN i A) B else i, dPh 0)] := rfl
theorem gk12 (A B C i : Nat) : goesL 12 A B C i = [(if (bitN i A && bitN i B) then flipN i C else i, dPh 0)] := rfl
end Go.Proofs.YtckfklpgnneodaaGreat
namespace Go.Proofs.YtckfklpgnneodaaGreat
/-- Every coefficient lies within K. -/
def Mx (K : Int) (z : Zw) : Prop := (-K ≤ z.a ∧ z.a ≤ K) ∧ (-K ≤ z.b ∧ z.b ≤ K) ∧ (-K ≤ z.c ∧ z.c ≤ K) ∧ (-K ≤ z.d ∧ z.d ≤ K)
theorem Mx.root_back {K : Int} {z : Zw} (h : Mx K z.root) : Mx K z := by
  unfold Mx Zw.root at h
  simp only at h
  unfold Mx
  omega
theorem Mx.rootN_back {K : Int} : ∀ (k : Nat) {z : Zw}, Mx K (rootN k z) → Mx K z
  | 0, _, h => h
  | k + 1, z, h => Mx.rootN_back k (Mx.root_back (by rwa [← rootN_succ]))
theorem Mx.add {K J : Int} {x y : Zw} (h : Mx K x) (k : Mx J y) : Mx (K + J) (x.add y) := by
  unfold Mx at *
  unfold Zw.add
  simp only
  omega
theorem prod_in {K u v : Int} (h0 : -K ≤ u) (h1 : u ≤ K) (k0 : -K ≤ v) (k1 : v ≤ K) : -(K * K) ≤ u * v ∧ u * v ≤ K * K := by
  have a1 := Int.mul_nonneg (show 0 ≤ K - u by omega) (show 0 ≤ K + v by omega)
  have a2 := Int.mul_nonneg (show 0 ≤ K + u by omega) (show 0 ≤ K - v by omega)
  have a3 := Int.mul_nonneg (show 0 ≤ K - u by omega) (show 0 ≤ K - v by omega)
  have a4 := Int.mul_nonneg (show 0 ≤ K + u by omega) (show 0 ≤ K + v by omega)
  rw [Int.sub_mul, Int.mul_add, Int.mul_add] at a1
  rw [Int.add_mul, Int.mul_sub, Int.mul_sub] at a2
  rw [Int.sub_mul, Int.mul_sub, Int.mul_sub] at a3
  rw [Int.add_mul, Int.mul_add, Int.mul_add] at a4
  constructor <;> omega
theorem Mx.mul {K : Int} {x y : Zw} (h : Mx K x) (k : Mx K y) : Mx (4 * (K * K)) (x.mul y) := by
  obtain ⟨⟨a0, a1⟩, ⟨b0, b1⟩, ⟨c0, c1⟩, d0, d1⟩ := h
  obtain ⟨⟨e0, e1⟩, ⟨f0, f1⟩, ⟨g0, g1⟩, i0, i1⟩ := k
  have p1 := prod_in a0 a1 e0 e1
  have p2 := prod_in a0 a1 f0 f1
  have p3 := prod_in a0 a1 g0 g1
  have p4 := prod_in a0 a1 i0 i1
  have q1 := prod_in b0 b1 e0 e1
  have q2 := prod_in b0 b1 f0 f1
  have q3 := prod_in b0 b1 g0 g1
  have q4 := prod_in b0 b1 i0 i1
  have r1 := prod_in c0 c1 e0 e1
  have r2 := prod_in c0 c1 f0 f1
  have r3 := prod_in c0 c1 g0 g1
  have r4 := prod_in c0 c1 i0 i1
  have s1 := prod_in d0 d1 e0 e1
  have s2 := prod_in d0 d1 f0 f1
  have s3 := prod_in d0 d1 g0 g1
  have s4 := prod_in d0 d1 i0 i1
  unfold Mx Zw.mul
  simp only
  omega
theorem Mx.ok {K : Int} {x : Zw} (h : Mx K x) (hK : K ≤ 1073741824) : x.ok := by
  unfold Mx at h
  unfold Zw.ok Near
  omega
theorem upB_of : ∀ (k : Nat) {n : Zw}, (∀ i, i ≤ k → (rootN i n).ok) → upB k n = true
  | 0, _, _ => rfl
  | k + 1, n, h => by
    have h0 := h 0 (by omega)
    have h1 := h 1 (by omega)
    rw [upB, Bool.and_eq_true]
    refine ⟨?_, upB_of k fun i hi => ?_⟩
    · unfold mulB
      rw [decide_eq_true_eq]
      exact ⟨h0, by decide, by rw [mul_rootE]; exact h1⟩
    · have := h (i + 1) (by omega)
      rwa [Nat.add_comm, rootN_add] at this
/-- x is, over the root's power t, a number with small coefficients. -/
def Ov (t : Nat) (K : Int) (x : Dw) : Prop := x.ok ∧ ∃ P, rootN t (vl x) = rootN 60 P ∧ Mx K P
theorem Ov.exp {t : Nat} {K : Int} {x : Dw} (h : Ov t K x) : x.e ≤ t ∧ ∀ i, i ≤ t - x.e.toNat → Mx K (rootN i x.n) := by
  obtain ⟨hx, P, hP, hK⟩ := h
  obtain ⟨x1, x2, x3, x4⟩ := hx
  unfold vl at hP
  rw [← rootN_add] at hP
  have hle : x.e ≤ t := by
    rcases Int.lt_or_le (t : Int) x.e with hl | hl
    · exfalso
      have h1 : x.n = rootN (x.e.toNat - t) P := by
        apply rootN_inj (k := 60 - x.e.toNat + t)
        rw [hP, ← rootN_add]
        congr 1; omega
      rcases x4 with x4 | x4
      · omega
      · have hm : x.n = (rootN (x.e.toNat - t - 1) P).root := by
          rw [h1, show x.e.toNat - t = (x.e.toNat - t - 1) + 1 by omega, rootN_succ]
          congr 2
        have hd : divB x.n = true := by
          rw [divB_iff]
          refine ⟨x1, ?_⟩
          rw [hm]
          unfold Zw.even Zw.root
          simp only
          omega
        rw [x4] at hd
        cases hd
    · exact hl
  refine ⟨hle, fun i hi => ?_⟩
  have h2 : rootN (t - x.e.toNat) x.n = P := by
    apply rootN_inj (k := 60)
    rw [← hP, ← rootN_add]
    congr 1; omega
  rw [← h2, show t - x.e.toNat = i + (t - x.e.toNat - i) by omega, rootN_add] at hK
  exact hK.rootN_back _
theorem Ov.mul {t : Nat} {K : Int} {x y : Dw} (h : Ov t K x) (k : Ov t K y) (_ : K ≤ 1073741824) (h4 : 4 * (K * K) ≤ 1073741824) (ht : t ≤ 30) : dMulB x y = true ∧ Ov (2 * t) (4 * (K * K)) (dMulV x y) := by
  obtain ⟨hx, P, hP, hPK⟩ := id h
  obtain ⟨hy, Q, hQ, hQK⟩ := id k
  obtain ⟨ex, mx⟩ := h.exp
  obtain ⟨ey, my⟩ := k.exp
  have x0 := hx.2.1
  have y0 := hy.2.1
  have hmul := (mx 0 (by omega)).mul (my 0 (by omega))
  have hok : (x.n.mul y.n).ok := hmul.ok h4
  have hB : dMulB x y = true := by
    rw [dMulB_iff]
    refine ⟨hx, hy, ?_, ?_⟩
    · unfold mulB
      rw [decide_eq_true_eq]
      exact ⟨hx.1, hy.1, hok⟩
    · rw [newB_iff]
      refine ⟨hok, by omega, by omega, ?_⟩
      have := red_le (x.e + y.e).toNat (x.n.mul y.n)
      omega
  refine ⟨hB, dMulV_ok hB, P.mul Q, ?_, hPK.mul hQK⟩
  have hv := vl_mul hB
  apply rootN_inj (k := 60)
  rw [rootN_comm, hv, show 2 * t = t + t by omega, rootN_mul2, hP, hQ, ← rootN_mul2, rootN_add]
theorem Ov.add {t : Nat} {K J : Int} {x y : Dw} (h : Ov t K x) (k : Ov t J y) (hK : 0 ≤ K) (hJ : 0 ≤ J) (hs : K + J ≤ 1073741824) (ht : t ≤ 60) : dAddB x y = true ∧ Ov t (K + J) (dAddV x y) := by
  obtain ⟨hx, P, hP, hPK⟩ := id h
  obtain ⟨hy, Q, hQ, hQK⟩ := id k
  obtain ⟨ex, mx⟩ := h.exp
  obtain ⟨ey, my⟩ := k.exp
  have x0 := hx.2.1
  have y0 := hy.2.1
  obtain ⟨t1, t2, t3⟩ := topE_le x y
  have hA : Mx K (numA x y) := mx _ (by omega)
  have hBy : Mx J (numB x y) := my _ (by omega)
  have hsum := hA.add hBy
  have hok : ((numA x y).add (numB x y)).ok := hsum.ok hs
  have hB : dAddB x y = true := by
    rw [dAddB_iff]
    refine ⟨hx, hy, upB_of _ fun i hi => (mx i (by omega)).ok (by omega), upB_of _ fun i hi => (my i (by omega)).ok (by omega), ?_, ?_⟩
    · unfold addB
      rw [decide_eq_true_eq]
      exact ⟨hA.ok (by omega), hBy.ok (by omega), hok⟩
    · rw [newB_iff]
      refine ⟨hok, by omega, by omega, ?_⟩
      have := red_le (topE x y).toNat ((numA x y).add (numB x y))
      omega
  refine ⟨hB, dAddV_ok hB, P.add Q, ?_, hPK.add hQK⟩
  rw [vl_add hB, rootN_addZ, rootN_addZ, hP, hQ]
/-- The coefficients of gates one behind the other, over the root's power of the number of GateH. -/
def hs (L : List Gt) : Nat := (L.map fun g => scK g.k).sum
theorem goes_sc {g : Gt} (hk : 1 ≤ g.k ∧ g.k ≤ 12) (i : Nat) : ∀ p ∈ goesG g i, p.2.e.toNat = scK g.k := by
  have hif : ∀ (t : Bool) (m : Int), (if t = true then dPh m else dPh 0).e.toNat = 0 := fun t m => by cases t <;> rfl
  intro p hp
  unfold goesG at hp
  rcases (show g.k = 1 ∨ g.k = 2 ∨ g.k = 3 ∨ g.k = 4 ∨ g.k = 5 ∨ g.k = 6 ∨ g.k = 7 ∨ g.k = 8 ∨ g.k = 9 ∨ g.k = 10 ∨ g.k = 11 ∨ g.k = 12 by omega) with e | e | e | e | e | e | e | e | e | e | e | e <;> rw [e] at hp ⊢
  · rw [gk1, List.mem_singleton] at hp; subst hp; rfl
  · rw [gk2, List.mem_singleton] at hp; subst hp; rfl
  · rw [gk3, List.mem_singleton] at hp; subst hp; exact hif _ _
  · rw [gk4] at hp
    rcases List.mem_cons.1 hp with rfl | hp
    · exact (by decide : (isV 1).e.toNat = 1)
    · rw [List.mem_singleton] at hp
      subst hp
      cases bitN i g.a.toNat
      · exact (by decide : (isV 1).e.toNat = 1)
      · exact (by decide : (dNegV (isV 1)).e.toNat = 1)
  · rw [gk5, List.mem_singleton] at hp; subst hp; exact hif _ _
  · rw [gk6, List.mem_singleton] at hp; subst hp; exact hif _ _
  · rw [gk7, List.mem_singleton] at hp; subst hp; exact hif _ _
  · rw [gk8, List.mem_singleton] at hp; subst hp; exact hif _ _
  · rw [gk9, List.mem_singleton] at hp; subst hp; rfl
  · rw [gk10, List.mem_singleton] at hp; subst hp; exact hif _ _
  · rw [gk11, List.mem_singleton] at hp; subst hp; rfl
  · rw [gk12, List.mem_singleton] at hp; subst hp; rfl
theorem scK_le (k : Int) : scK k ≤ 1 := by unfold scK; split <;> omega
theorem hs_le : ∀ L : List Gt, hs L ≤ L.length
  | [] => Nat.le_refl _
  | g :: L => by
    have := hs_le L
    have := scK_le g.k
    rw [show hs (g :: L) = scK g.k + hs L by simp [hs], List.length_cons]
    omega
theorem hs_cons (g : Gt) (L : List Gt) : hs (g :: L) = scK g.k + hs L := by simp [hs]
end Go.Proofs.YtckfklpgnneodaaGreat
namespace Go.Proofs.YtckfklpgnneodaaGreat
open Go.RowKit
def eqGB (x y : Gt) : Bool := x.k == y.k && (x.a == y.a && (x.b == y.b && x.c == y.c))
theorem eqGB_iff {x y : Gt} : eqGB x y = true ↔ x = y := by
  simp only [eqGB, Bool.and_eq_true, beq_iff_eq]
  exact ⟨fun ⟨h0, h1, h2, h3⟩ => by cases x; cases y; simp_all, fun h => by subst h; exact ⟨rfl, rfl, rfl, rfl⟩⟩
instance : DecidableEq Gt := fun x y => if h : eqGB x y = true then .isTrue (eqGB_iff.1 h) else .isFalse fun k => h (eqGB_iff.2 k)
attribute [local irreducible] World.cell?
theorem infoG3 : (Tryz.prog.info? 44).map (fun i => (i.zero, i.size, i.bytes)) = some (some (.agg #[.int .i64 0, .int .i64 0, .int .i64 0, .int .i64 0]), 4, 32) := by kernel_rfl
end Go.Proofs.YtckfklpgnneodaaGreat
namespace Go.Proofs.YtckfklpgnneodaaGreat
open Go.RowKit
attribute [local irreducible] World.cell?
end Go.Proofs.YtckfklpgnneodaaGreat
namespace Go.Proofs.YtckfklpgnneodaaGreat
open Go.RowKit
theorem GsIn.empty {w : World} {B : Nat} {a : Option Addr} {l : List Gt} (h : l.length = 0) : GsIn w B a l := ⟨by omega, fun h0 => absurd h0 (by omega)⟩
theorem pow_le16 {n : Int} (h : 1 ≤ n ∧ n ≤ 4) : 2 ^ n.toNat ≤ 16 := by
  rcases (show n = 1 ∨ n = 2 ∨ n = 3 ∨ n = 4 by omega) with rfl | rfl | rfl | rfl <;> decide
attribute [local irreducible] World.cell?
end Go.Proofs.YtckfklpgnneodaaGreat
namespace Go.Proofs.YtckfklpgnneodaaGreat
open Go.RowKit
theorem set2_at {w : World} {b : Nat} {z0 z1 u0 u1 : Value} {t : TypeId} (h : w.heap[b]? = some (.cells #[z0, z1] t (0, 0))) : ((w.setCell ⟨b, 0, none⟩ u0).setCell ⟨b, 1, none⟩ u1).heap[b]? = some (.cells #[u0, u1] t (0, 0)) := by
  have h1 := heap_set h 0 u0
  exact heap_set h1 1 u1
attribute [local irreducible] World.cell?
end Go.Proofs.YtckfklpgnneodaaGreat
namespace Go.Proofs.YtckfklpgnneodaaGreat
open Go.RowKit
theorem size_alloc1 (w : World) (o : Obj) : (w.alloc o).heap.size = w.heap.size + 1 := by simp
/-- A circuit's box. -/
def CB (w : World) (b : Nat) (n : Int) (v : Value) (w' : World) : Prop := w'.cell? ⟨b, 0, none⟩ = some (.int .i64 n) ∧ w'.cell? ⟨b, 1, none⟩ = some v ∧ b < w'.heap.size ∧ Below w.heap.size w w'
theorem CB.drew {w w1 : World} {b : Nat} {n : Int} {v : Value} (h : CB w b n v w1) : CB w b n v w1.drew := let ⟨a0, a1, z, l⟩ := h; ⟨a0, a1, z, l.drew⟩
theorem CB.below {w w1 w2 : World} {b : Nat} {n : Int} {v : Value} (h : CB w b n v w1) (hb : Below w1.heap.size w1 w2) : CB w b n v w2 :=
  let ⟨a0, a1, z, l⟩ := h
  ⟨cell_below a0 hb z, cell_below a1 hb z, Nat.lt_of_lt_of_le z hb.size, below_up l hb l.size⟩
theorem cell_set {w : World} {b o g p : Nat} {u v : Value} (h : w.cell? ⟨b, o, none⟩ = some v) (hn : b ≠ g) : (w.setCell ⟨g, p, none⟩ u).cell? ⟨b, o, none⟩ = some v :=
  (World.cell?_of_block (w := w) (a := ⟨b, o, none⟩) (Below.heap_setCell w ⟨g, p, none⟩ u b (by show b ≠ g; exact hn))).trans h
theorem CB.set {w w1 : World} {b g p : Nat} {n : Int} {v u : Value} (h : CB w b n v w1) (hn : b ≠ g) (hg : w.heap.size ≤ g) : CB w b n v (w1.setCell ⟨g, p, none⟩ u) :=
  let ⟨a0, a1, z, l⟩ := h
  ⟨cell_set a0 hn, cell_set a1 hn, by simpa [World.setCell] using z, l.setCell (p := ⟨g, p, none⟩) hg u⟩
/-- Two circuits' boxes. -/
def CB2 (w : World) (a b : Nat) (n m : Int) (v u : Value) (w' : World) : Prop := w'.cell? ⟨a, 0, none⟩ = some (.int .i64 n) ∧ w'.cell? ⟨a, 1, none⟩ = some v ∧ w'.cell? ⟨b, 0, none⟩ = some (.int .i64 m) ∧ w'.cell? ⟨b, 1, none⟩ = some u ∧ a < w'.heap.size ∧ b < w'.heap.size ∧ Below w.heap.size w w'
theorem CB2.drew {w w1 : World} {a b : Nat} {n m : Int} {v u : Value} (h : CB2 w a b n m v u w1) : CB2 w a b n m v u w1.drew := let ⟨a0, a1, b0, b1, z, z', l⟩ := h; ⟨a0, a1, b0, b1, z, z', l.drew⟩
theorem CB2.below {w w1 w2 : World} {a b : Nat} {n m : Int} {v u : Value} (h : CB2 w a b n m v u w1) (hb : Below w1.heap.size w1 w2) : CB2 w a b n m v u w2 :=
  let ⟨a0, a1, b0, b1, z, z', l⟩ := h
  ⟨cell_below a0 hb z, cell_below a1 hb z, cell_below b0 hb z', cell_below b1 hb z', Nat.lt_of_lt_of_le z hb.size, Nat.lt_of_lt_of_le z' hb.size, below_up l hb l.size⟩
theorem ccM_amps (n : Int) (L : List Gt) : (ccM n L).length ≤ 1048576 ∧ amps (ccM n L) ≤ 1048576 := by
  unfold ccM
  split
  · rename_i h
    unfold ciB at h
    simp only [Bool.and_eq_true, decide_eq_true_eq] at h
    have h16 : 2 ^ n.toNat ≤ 16 := pow_le16 h.2.1
    unfold cirM
    split
    · have hL := cirC_len L n.toNat
      have hc : (colsM (cirC L n.toNat)).length = 2 ^ n.toNat := by rw [colsM_len, hL]
      have hr := amps_rect (n := 2 ^ n.toNat) (M := colsM (cirC L n.toNat)) fun r hr => by
        obtain ⟨k, -, rfl⟩ := List.mem_map.1 hr
        rw [col_len, hL]
      refine ⟨by omega, ?_⟩
      rw [hr, hc]
      exact Nat.le_trans (Nat.mul_le_mul h16 h16) (by decide)
    · exact ⟨by decide, by decide⟩
  · exact ⟨by decide, by decide⟩
attribute [local irreducible] World.cell?
end Go.Proofs.YtckfklpgnneodaaGreat
namespace Go.Proofs.YtckfklpgnneodaaGreat
open Go.RowKit
def MgIn (w : World) (B : Nat) (a0 : Option Addr) (M : List (List Gt)) : Prop :=
  M.length ≤ maxLen ∧ (0 < M.length → ∃ b off, a0 = some ⟨b, off, none⟩ ∧ b < B ∧ ∀ j r, M[j]? = some r → ∃ a cap, w.cell? ⟨b, off + j, none⟩ = some (.slice a r.length cap) ∧ GsIn w B a r)
theorem MgIn.below {w w' : World} {B : Nat} {a0 : Option Addr} {M : List (List Gt)} (h : MgIn w B a0 M) (hb : Below B w w') : MgIn w' B a0 M :=
  ⟨h.1, fun h0 => by
    obtain ⟨b, off, e, hlt, hc⟩ := h.2 h0
    refine ⟨b, off, e, hlt, fun j r hr => ?_⟩
    obtain ⟨a, cap, c0, hd⟩ := hc j r hr
    exact ⟨a, cap, (hb.cell (by exact hlt)).trans c0, hd.below hb⟩⟩
theorem MgIn.mono {w : World} {B C : Nat} {a0 : Option Addr} {M : List (List Gt)} (h : MgIn w B a0 M) (hC : B ≤ C) : MgIn w C a0 M :=
  ⟨h.1, fun h0 => by
    obtain ⟨b, off, e, hlt, hc⟩ := h.2 h0
    refine ⟨b, off, e, by omega, fun j r hr => ?_⟩
    obtain ⟨a, cap, c0, hd⟩ := hc j r hr
    exact ⟨a, cap, c0, hd.mono hC⟩⟩
def ampsG (M : List (List Gt)) : Nat := (M.map List.length).sum
attribute [local irreducible] World.cell?
end Go.Proofs.YtckfklpgnneodaaGreat
namespace Go.Proofs.YtckfklpgnneodaaGreat
open Go.ChangeShapes Go.WideShapes Go.ChangeAt Go.RowKit Go.Lib Go.Joins
end Go.Proofs.YtckfklpgnneodaaGreat
namespace Go.Proofs.YtckfklpgnneodaaGreat
open Go.RowKit
theorem set_same {o : List Dw} {k : Nat} (hk : k < o.length) : o.set k (o.getD k .zero) = o := by
  rw [List.getD_eq_getElem?_getD, List.getElem?_eq_getElem hk]
  exact List.set_getElem_self hk
theorem send_zero : ∀ {L : List (Nat × Dw)} {o : List Dw}, (∀ p ∈ L, p.1 < o.length ∧ p.2.ok) → (∀ y ∈ o, y.ok) → sendO .zero L o = some o
  | [], _, _, _ => rfl
  | p :: r, o, h, ho => by
    have hp := h p (List.mem_cons_self ..)
    have hm := dzero_mul hp.2
    have ha := dadd_zeroK (getD_ok ho p.1)
    rw [sendO, hm.1, hm.2, ha.1, ha.2, set_same hp.1]
    exact send_zero (fun q hq => h q (List.mem_cons_of_mem _ hq)) ho
theorem ap_step2 {G : Nat → List (Nat × Dw)} {l o : List Dw} {i : Nat} {x : Dw} (hx : l[i]? = some x) (hG : ∀ p ∈ G i, p.1 < o.length ∧ p.2.ok) (ho : ∀ y ∈ o, y.ok) :
    apO G i (l.drop i) o = match sendO x (G i) o with
      | some o' => apO G (i + 1) (l.drop (i + 1)) o'
      | none => none := by
  rw [ap_step hx]
  split
  · rename_i h
    rw [h, send_zero hG ho]
  · rfl
theorem goesG_ok (g : Gt) (i : Nat) : ∀ p ∈ goesG g i, p.2.ok := fun p hp => (goesL_e _ _ _ _ _ p hp).1
end Go.Proofs.YtckfklpgnneodaaGreat
