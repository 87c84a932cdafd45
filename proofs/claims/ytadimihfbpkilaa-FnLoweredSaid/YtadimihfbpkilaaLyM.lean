/- Plain: gates that share no qubit commute; a list with few GateH is found at every basis state. -/
import Derived.Test.YtadimihfbpkilaaBaseB09
import Derived.Test.YtadimihfbpkilaaBaseB19
import Derived.Test.YtadimihfbpkilaaCpU
namespace Go.Proofs.Ytadimihfbpkilaa
theorem own_gate {g : Gt} {n : Int} (h : gtB g n = true) : ownB g.k g.a.toNat g.b.toNat g.c.toNat = true := by
  obtain ⟨hn, -, ha, hb, hc⟩ := gtB_parts h
  rcases gtB_kinds h with ⟨k1, k2, b0, c0⟩ | ⟨k1, k2, hab, c0⟩ | ⟨k, hab, hca, hcb⟩
  · have h1 := List.all_eq_true.1 own_1 g.k (by simp; omega)
    have h2 := List.all_eq_true.1 h1 g.a.toNat (List.mem_range.2 (by omega))
    rw [b0, c0]; exact h2
  · have h1 := List.all_eq_true.1 own_2 g.k (by simp; omega)
    have h2 := List.all_eq_true.1 (List.all_eq_true.1 h1 g.a.toNat (List.mem_range.2 (by omega))) g.b.toNat (List.mem_range.2 (by omega))
    rw [Bool.or_eq_true, beq_iff_eq] at h2
    rw [c0]; exact h2.resolve_left (by omega)
  · have h2 := List.all_eq_true.1 (List.all_eq_true.1 (List.all_eq_true.1 own_3 g.a.toNat (List.mem_range.2 (by omega))) g.b.toNat (List.mem_range.2 (by omega))) g.c.toNat (List.mem_range.2 (by omega))
    rw [Bool.or_eq_true, Bool.or_eq_true, Bool.or_eq_true, beq_iff_eq, beq_iff_eq, beq_iff_eq] at h2
    rw [k]
    exact h2.resolve_left (by omega)
/-- The bits of a gate's qubits. -/
def gmG (g : Gt) : Nat := gm (gqN g.k g.a.toNat g.b.toNat g.c.toNat)
theorem goes_xor {g : Gt} {n : Int} (h : gtB g n = true) {i m : Nat} (hi : i < 16) (hm : m < 16) (h0 : m &&& gmG g = 0) : goesG g (i ^^^ m) = (goesG g i).map fun p => (p.1 ^^^ m, p.2) := by
  have h1 := own_gate h
  unfold ownB at h1
  rw [Bool.and_eq_true] at h1
  have h2 := List.all_eq_true.1 h1.1 m (List.mem_range.2 hm)
  rw [Bool.or_eq_true, bne_iff_ne] at h2
  exact of_decide_eq_true (List.all_eq_true.1 (h2.resolve_left fun h3 => h3 h0) i (List.mem_range.2 hi))
theorem goes_own {g : Gt} {n : Int} (h : gtB g n = true) {i : Nat} (hi : i < 16) : ∀ p ∈ goesG g i, (p.1 ^^^ i) &&& gmG g = p.1 ^^^ i ∧ p.1 < 16 ∧ p.2.n ∈ phL := fun p hp => by
  have h1 := own_gate h
  unfold ownB at h1
  rw [Bool.and_eq_true, Bool.and_eq_true] at h1
  have h2 := List.all_eq_true.1 (List.all_eq_true.1 h1.2.1 i (List.mem_range.2 hi)) p hp
  rw [Bool.and_eq_true, Bool.and_eq_true] at h2
  exact ⟨of_decide_eq_true h2.1, of_decide_eq_true h2.2.1, of_decide_eq_true h2.2.2⟩
theorem goes_cnt {g : Gt} {n : Int} (h : gtB g n = true) {j : Nat} (hj : j < 16) : ((List.range 16).flatMap (goesG g)).countP (fun p => p.1 == j) ≤ 1 + scK g.k := by
  have h1 := own_gate h
  unfold ownB at h1
  rw [Bool.and_eq_true, Bool.and_eq_true] at h1
  have h2 := of_decide_eq_true (List.all_eq_true.1 h1.2.2 j (List.mem_range.2 hj))
  refine Nat.le_trans h2 ?_
  unfold scK
  split <;> omega
theorem gm_bit (l : List Nat) (b : Nat) : (gm l).testBit b = decide (b ∈ l) := by
  induction l with
  | nil => simp [gm]
  | cons q l ih =>
    have e : gm (q :: l) = 1 <<< q ||| gm l := rfl
    rw [e, Nat.testBit_or, ih, Nat.testBit_shiftLeft]
    by_cases h : b = q
    · subst h; simp
    · have h1 : (decide (b ≥ q) && Nat.testBit 1 (b - q)) = false := by
        rw [Bool.and_eq_false_iff]
        by_cases hb : b ≥ q
        · right
          have : b - q ≠ 0 := by omega
          rw [← Bool.not_eq_true, Nat.testBit_one_eq_true_iff_self_eq_zero]
          exact this
        · left; simpa using hb
      rw [h1]
      simp [h]
theorem gqN_mem {g : Gt} {n : Int} (h : gtB g n = true) {q : Nat} (hq : q ∈ gqN g.k g.a.toNat g.b.toNat g.c.toNat) : (q : Int) ∈ gqs g := by
  obtain ⟨hn, -, ha, hb, hc⟩ := gtB_parts h
  have e : gqN g.k g.a.toNat g.b.toNat g.c.toNat = (gqs g).map Int.toNat := by
    unfold gqN gqs
    rw [List.map_take]
    rfl
  rw [e] at hq
  obtain ⟨x, hx, rfl⟩ := List.mem_map.1 hq
  have : 0 ≤ x := by
    have := List.mem_of_mem_take hx
    simp at this
    omega
  rwa [Int.toNat_of_nonneg this]
theorem gm_apart {g h : Gt} {n : Int} (hg : gtB g n = true) (hh : gtB h n = true) (hd : mtG g h = false) : gmG g &&& gmG h = 0 := by
  apply Nat.eq_of_testBit_eq
  intro b
  rw [Nat.testBit_and, Nat.zero_testBit]
  unfold gmG
  rw [gm_bit, gm_bit]
  by_cases h1 : b ∈ gqN g.k g.a.toNat g.b.toNat g.c.toNat
  · by_cases h2 : b ∈ gqN h.k h.a.toNat h.b.toNat h.c.toNat
    · exfalso
      have : mtG g h = true := mtG_iff.2 ⟨(b : Int), gqN_mem hg h1, gqN_mem hh h2⟩
      rw [hd] at this
      cases this
    · simp [h2]
  · simp [h1]
theorem cfs_congr {f f' : Nat → Zw} : ∀ {L : List (Nat × Dw)}, (∀ p ∈ L, f p.1 = f' p.1) → cfs L f = cfs L f'
  | [], _ => rfl
  | p :: r, h => by rw [cfs, cfs, h p (List.mem_cons_self ..), cfs_congr fun q hq => h q (List.mem_cons_of_mem _ hq)]
theorem cfs_zero : ∀ L : List (Nat × Dw), cfs L (fun _ => .zero) = .zero
  | [] => rfl
  | p :: r => by rw [cfs, cfs_zero r, mul_zero', add_zero']
theorem cfs_add (f f' : Nat → Zw) : ∀ L : List (Nat × Dw), cfs L (fun x => (f x).add (f' x)) = (cfs L f).add (cfs L f')
  | [] => by rw [cfs, cfs, cfs, add_zero']
  | p :: r => by
    rw [cfs, cfs, cfs, cfs_add f f' r, mul_add', add_assoc', add_assoc']
    congr 1
    rw [add_left']
/-- A sum over two lists of places that are turned over by one another. -/
theorem two_one (i j : Nat) (p : Nat × Dw) : ∀ M : List (Nat × Dw), (wt p.2).mul (cf (M.map fun r => (r.1 ^^^ (p.1 ^^^ i), r.2)) j) = cfs M fun x => if p.1 ^^^ (x ^^^ i) = j then wt p.2 else .zero
  | [] => by rw [List.map_nil, cf, cfs, mul_zero']
  | r :: M => by
    have e : r.1 ^^^ (p.1 ^^^ i) = p.1 ^^^ (r.1 ^^^ i) := by rw [← Nat.xor_assoc, ← Nat.xor_assoc, Nat.xor_comm r.1 p.1]
    rw [List.map_cons, cf, cfs, ← two_one i j p M]
    simp only [e]
    split
    · rw [mul_add', mul_comm' (wt r.2) (wt p.2)]
    · rw [mul_zero', zero_add']
theorem two_sum (i j : Nat) : ∀ L M : List (Nat × Dw), cfs L (fun x => cf (M.map fun r => (r.1 ^^^ (x ^^^ i), r.2)) j) = cfs M (fun x => cf (L.map fun r => (r.1 ^^^ (x ^^^ i), r.2)) j)
  | [], M => by
    rw [cfs]
    exact (cfs_zero M).symm
  | p :: L, M => by
    rw [cfs, two_sum i j L M, two_one, ← cfs_add]
    refine cfs_congr fun r _ => ?_
    rw [List.map_cons, cf]
    split
    · rfl
    · rw [zero_add']
theorem xor_back (a i : Nat) : i ^^^ (a ^^^ i) = a := by rw [Nat.xor_comm a i, ← Nat.xor_assoc, Nat.xor_self, Nat.zero_xor]
theorem goes_led {g h : Gt} {n : Int} (hg : gtB g n = true) (hh : gtB h n = true) (hd : mtG g h = false) {i j : Nat} (hi : i < 16) :
    cfs (goesG g i) (fun x => cf (goesG h x) j) = cfs (goesG g i) fun x => cf ((goesG h i).map fun r => (r.1 ^^^ (x ^^^ i), r.2)) j := by
  refine cfs_congr fun p hp => ?_
  obtain ⟨h1, h2, -⟩ := goes_own hg hi p hp
  have hx : (p.1 ^^^ i) &&& gmG h = 0 := by rw [← h1, Nat.and_assoc, gm_apart hg hh hd, Nat.and_zero]
  have h3 := goes_xor hh (i := i) (m := p.1 ^^^ i) hi (Nat.xor_lt_two_pow (n := 4) h2 hi) hx
  rw [xor_back] at h3
  rw [h3]
/-- Gates that share no qubit commute. -/
theorem goes_comm {g h : Gt} {n : Int} (hg : gtB g n = true) (hh : gtB h n = true) (hd : mtG g h = false) {i j : Nat} (hi : i < 16) :
    cfs (goesG g i) (fun x => cf (goesG h x) j) = cfs (goesG h i) fun x => cf (goesG g x) j := by
  rw [goes_led hg hh hd hi, goes_led hh hg (by rw [mtG_comm]; exact hd) hi, two_sum]
theorem cl_one {N : Nat} (h : Gt) {x m : Nat} (hm : m < N) : cl N [h] x m = cf (goesG h x) m := by
  rw [cl, sumZ_one (fun y => (cf (goesG h x) y).mul (cl N [] y m)) hm fun y _ hy => by rw [cl, if_neg hy, mul_zero'], cl, if_pos rfl, mul_oneZ]
theorem cl_two {g h : Gt} {N i m : Nat} (hg : gtB g (qc N) = true) (hi : i < N) (hm : m < N) : cl N [g, h] i m = cfs (goesG g i) fun x => cf (goesG h x) m := by
  rw [← cf_sum (N := N) _ _ (goesG_in hg hi)]
  rw [cl]
  exact sumZ_congr fun x _ => by rw [cl_one h hm]
theorem sw_cl {N : Nat} (h16 : N ≤ 16) {L M : List Gt} (h : Sw L M) : (∀ g ∈ L, gtB g (qc N) = true) → ∀ i, i < N → ∀ j, j < N → cl N L i j = cl N M i j := by
  induction h with
  | refl _ => exact fun _ _ _ _ _ => rfl
  | swap A B g h L hd _ ih =>
    intro hv i hi j hj
    have hg := hv g (by simp)
    have hh := hv h (by simp)
    rw [← ih (fun x hx => hv x (by simp at hx ⊢; rcases hx with h | h | h | h <;> simp [h])) i hi j hj]
    have e1 : A ++ g :: h :: B = A ++ ([g, h] ++ B) := by simp
    have e2 : A ++ h :: g :: B = A ++ ([h, g] ++ B) := by simp
    rw [e1, e2, cl_app N A _ i j hi, cl_app N A _ i j hi]
    refine sumZ_congr fun m hm => ?_
    rw [cl_app N [g, h] B m j hm, cl_app N [h, g] B m j hm]
    congr 1
    refine sumZ_congr fun q hq => ?_
    rw [cl_two hg hm hq, cl_two hh hm hq, goes_comm hg hh hd (by omega)]
/-- Exchanges of gates that share no qubit keep the matrix. -/
theorem sw_cir {n : Nat} (h1 : 1 ≤ n) (h4 : n ≤ 4) {L M : List Gt} (h : Sw L M) (hv : ∀ g ∈ L, gtB g (n : Int) = true) (hL : cirB L n = true) (hM : cirB M n = true) : cirM L n = cirM M n := by
  have hq : qc (2 ^ n) = (n : Int) := qc_of (n := (n : Int)) (by omega)
  have h16 : 2 ^ n ≤ 16 := by
    rcases (show n = 1 ∨ n = 2 ∨ n = 3 ∨ n = 4 by omega) with rfl | rfl | rfl | rfl <;> decide
  have hr := cir_rep h1 h4 hM
  rw [← h.perm.length_eq] at hr
  exact (cir_rep h1 h4 hL).eq hr (sw_cl h16 h (by rw [hq]; exact hv))
-- found
theorem Mx.turn {K : Int} {x y : Zw} (h : Mx K x) (hy : y ∈ phL) : Mx K (x.mul y) := by
  unfold Mx at h ⊢
  simp only [phL, List.mem_cons, List.not_mem_nil, or_false] at hy
  rcases hy with rfl | rfl | rfl | rfl | rfl | rfl | rfl | rfl <;> (simp only [Zw.mul]; omega)
theorem Mx.mono {K J : Int} {x : Zw} (h : Mx K x) (hKJ : K ≤ J) : Mx J x := by unfold Mx at h ⊢; omega
theorem Ov.mono {t : Nat} {K J : Int} {x : Dw} (h : Ov t K x) (hKJ : K ≤ J) : Ov t J x := by
  obtain ⟨hx, P, hP, hK⟩ := h
  exact ⟨hx, P, hP, hK.mono hKJ⟩
theorem Ov.turn {t s : Nat} {K : Int} {x y : Dw} (h : Ov t K x) (hy : y.ok) (hn : y.n ∈ phL) (hs : y.e.toNat = s) (hs1 : s ≤ 1) (hK : K ≤ 1073741824) (ht : t ≤ 59) : dMulB x y = true ∧ Ov (t + s) K (dMulV x y) := by
  obtain ⟨hx, P, hP, hPK⟩ := id h
  obtain ⟨ex, mx⟩ := h.exp
  have x0 := hx.2.1
  have y0 := hy.2.1
  have hmul : Mx K (x.n.mul y.n) := (mx 0 (by omega)).turn hn
  have hok : (x.n.mul y.n).ok := hmul.ok hK
  have hB : dMulB x y = true := by
    rw [dMulB_iff]
    refine ⟨hx, hy, ?_, ?_⟩
    · unfold mulB
      rw [decide_eq_true_eq]
      exact ⟨hx.1, hy.1, hok⟩
    · rw [newB_iff]
      refine ⟨hok, by omega, by omega, ?_⟩
      have := red_le (x.e + y.e).toNat (x.n.mul y.n)
      omega
  refine ⟨hB, dMulV_ok hB, P.mul y.n, ?_, hPK.turn hn⟩
  have hv := vl_mul hB
  have hQ : rootN s (vl y) = rootN 60 y.n := by
    unfold vl
    rw [hs, ← rootN_add]
    congr 1; omega
  apply rootN_inj (k := 60)
  rw [rootN_comm, hv, rootN_mul2, hP, hQ, ← rootN_mul2, rootN_add]
theorem send_found {x : Dw} {t s N : Nat} {K : Int} (hx : Ov t K x) (hK0 : 0 ≤ K) (hs : s ≤ 1) (ht : t ≤ 59) : ∀ (L : List (Nat × Dw)) (o : List Dw) (c : Nat → Nat), (∀ p ∈ L, p.1 < N ∧ p.2.ok ∧ p.2.n ∈ phL ∧ p.2.e.toNat = s) → o.length = N → (∀ j, j < N → Ov (t + s) ((c j : Int) * K) (o.getD j .zero)) → (∀ j, j < N → ((c j + L.countP (fun p => p.1 == j) : Nat) : Int) * K ≤ 1073741824) → K ≤ 1073741824 →
    ∃ o', sendO x L o = some o' ∧ o'.length = N ∧ ∀ j, j < N → Ov (t + s) (((c j + L.countP (fun p => p.1 == j) : Nat) : Int) * K) (o'.getD j .zero)
  | [], o, c, _, hl, ho, _, _ => ⟨o, rfl, hl, fun j hj => by simpa using ho j hj⟩
  | p :: r, o, c, hp, hl, ho, hc, hK => by
    obtain ⟨p1, p2, p3, p4⟩ := hp p (List.mem_cons_self ..)
    obtain ⟨m1, m2⟩ := hx.turn p2 p3 p4 hs hK ht
    have hcp := hc p.1 p1
    have e1 : (p :: r).countP (fun q => q.1 == p.1) = r.countP (fun q => q.1 == p.1) + 1 := by rw [List.countP_cons_of_pos (by simp)]
    have hle : (c p.1 : Int) * K + K ≤ 1073741824 := by
      have h1 : ((c p.1 + 1 : Nat) : Int) * K ≤ ((c p.1 + (p :: r).countP (fun q => q.1 == p.1) : Nat) : Int) * K := Int.mul_le_mul_of_nonneg_right (by rw [e1]; omega) hK0
      have h2 : ((c p.1 + 1 : Nat) : Int) * K = (c p.1 : Int) * K + K := by rw [Int.natCast_add, Int.add_mul]; simp
      omega
    obtain ⟨a1, a2⟩ := (ho p.1 p1).add m2 (Int.mul_nonneg (by omega) hK0) hK0 hle (by omega)
    have ih := send_found hx hK0 hs ht r (o.set p.1 (dAddV (o.getD p.1 .zero) (dMulV x p.2))) (fun j => if p.1 = j then c j + 1 else c j) (fun q hq => hp q (List.mem_cons_of_mem _ hq)) (by rw [List.length_set]; exact hl) (fun j hj => by
      rw [getD_set _ _ _ _ (by omega)]
      by_cases e : p.1 = j
      · subst e
        simp only [if_true]
        rw [show (((c p.1 + 1 : Nat) : Int)) * K = (c p.1 : Int) * K + K by rw [Int.natCast_add, Int.add_mul]; simp]
        exact a2
      · simp only [if_neg e]
        exact ho j hj) (fun j hj => by
      have := hc j hj
      rw [List.countP_cons] at this
      by_cases e : p.1 = j
      · simp only [if_pos e]
        rw [if_pos (by simp [e])] at this
        rw [show c j + 1 + List.countP (fun q => q.1 == j) r = c j + (List.countP (fun q => q.1 == j) r + 1) by omega]
        exact this
      · simp only [if_neg e]
        rw [if_neg (by simp [e])] at this
        exact this) hK
    obtain ⟨o', h1, h2, h3⟩ := ih
    refine ⟨o', ?_, h2, fun j hj => ?_⟩
    · rw [sendO, m1, a1]
      exact h1
    · have := h3 j hj
      rw [List.countP_cons]
      by_cases e : p.1 = j
      · simp only [if_pos e] at this
        rw [if_pos (by simp [e]), show c j + (List.countP (fun q => q.1 == j) r + 1) = c j + 1 + List.countP (fun q => q.1 == j) r by omega]
        exact this
      · simp only [if_neg e] at this
        rw [if_neg (by simp [e])]
        exact this
def cnt (G : Nat → List (Nat × Dw)) (i j : Nat) : Nat := ((List.range i).flatMap G).countP fun p => p.1 == j
theorem cnt_succ (G : Nat → List (Nat × Dw)) (i j : Nat) : cnt G (i + 1) j = cnt G i j + (G i).countP fun p => p.1 == j := by
  unfold cnt
  rw [List.range_succ, List.flatMap_append, List.countP_append]
  simp
theorem cnt_mono (G : Nat → List (Nat × Dw)) (j : Nat) {i k : Nat} (h : i ≤ k) : cnt G i j ≤ cnt G k j := by
  induction k with
  | zero => rw [show i = 0 by omega]; exact Nat.le_refl _
  | succ k ih =>
    rcases Nat.lt_or_ge k i with h1 | h1
    · rw [show i = k + 1 by omega]; exact Nat.le_refl _
    · rw [cnt_succ]; exact Nat.le_add_right_of_le (ih h1)
theorem ap_found {G : Nat → List (Nat × Dw)} {t s N m : Nat} {K : Int} (hK0 : 0 ≤ K) (hs : s ≤ 1) (ht : t ≤ 59) (hm : (m : Int) * K ≤ 1073741824) (hK : K ≤ 1073741824) (hG : ∀ i, i < N → ∀ p ∈ G i, p.1 < N ∧ p.2.ok ∧ p.2.n ∈ phL ∧ p.2.e.toNat = s) (hc : ∀ j, j < N → cnt G N j ≤ m) : ∀ (v : List Dw) (i : Nat) (o : List Dw), i + v.length = N → (∀ x ∈ v, Ov t K x) → o.length = N → (∀ j, j < N → Ov (t + s) ((cnt G i j : Int) * K) (o.getD j .zero)) →
    ∃ o', apO G i v o = some o' ∧ o'.length = N ∧ ∀ j, j < N → Ov (t + s) ((m : Int) * K) (o'.getD j .zero)
  | [], i, o, hi, _, hl, ho => ⟨o, rfl, hl, fun j hj => (ho j hj).mono (Int.mul_le_mul_of_nonneg_right (by have := hc j hj; rw [List.length_nil, Nat.add_zero] at hi; subst hi; omega) hK0)⟩
  | x :: v, i, o, hi, hv, hl, ho => by
    rw [List.length_cons] at hi
    have hiN : i < N := by omega
    have hb : ∀ j, j < N → ((cnt G i j + (G i).countP (fun p => p.1 == j) : Nat) : Int) * K ≤ 1073741824 := fun j hj => by
      refine Int.le_trans (Int.mul_le_mul_of_nonneg_right ?_ hK0) hm
      have h1 := cnt_mono G j (show i + 1 ≤ N by omega)
      rw [cnt_succ] at h1
      have h2 := hc j hj
      omega
    obtain ⟨o1, h1, h2, h3⟩ := send_found (hv x (List.mem_cons_self ..)) hK0 hs ht (G i) o (cnt G i) (hG i hiN) hl ho hb hK
    rw [apO]
    split
    · refine ap_found hK0 hs ht hm hK hG hc v (i + 1) o (by omega) (fun y hy => hv y (List.mem_cons_of_mem _ hy)) hl fun j hj => (ho j hj).mono (Int.mul_le_mul_of_nonneg_right ?_ hK0)
      rw [cnt_succ]; omega
    · rw [h1]
      refine ap_found hK0 hs ht hm hK hG hc v (i + 1) o1 (by omega) (fun y hy => hv y (List.mem_cons_of_mem _ hy)) h2 fun j hj => ?_
      rw [cnt_succ]
      exact h3 j hj
theorem Ov.zero (t : Nat) : Ov t 0 .zero := ⟨zero_ok, .zero, by rw [vl_zero, rootN_z, rootN_z], by unfold Mx; decide⟩
/-- A valid gate on a state of small numbers is found, and what it gives is small. -/
theorem ag_found {g : Gt} {v : List Dw} {t : Nat} {K : Int} (hst : stB v = true) (hg : gtB g (qc v.length) = true) (hv : ∀ x ∈ v, Ov t K x) (hK0 : 0 ≤ K) (hK : (1 + scK g.k : Nat) * K ≤ 1073741824) (ht : t ≤ 59) :
    agB g v = true ∧ (agV g v).length = v.length ∧ stB (agV g v) = true ∧ ∀ x ∈ agV g v, Ov (t + scK g.k) ((1 + scK g.k : Nat) * K) x := by
  have hn := (gtB_parts hg).1
  have h16 := stB_len hst
  have hK1 : K ≤ 1073741824 := by
    have h1 : ((1 : Nat) : Int) * K ≤ ((1 + scK g.k : Nat) : Int) * K := Int.mul_le_mul_of_nonneg_right (by omega) hK0
    simp at h1 hK
    omega
  have hkk := (gtB_parts hg).2.1
  obtain ⟨o, h1, h2, h3⟩ := ap_found (G := goesG g) (t := t) (s := scK g.k) (N := v.length) (m := 1 + scK g.k) hK0 (scK_le _) ht hK hK1 (fun i hi p hp => ⟨goesG_in hg hi p hp, (goesL_e _ _ _ _ _ p hp).1, (goes_own hg (by omega) p hp).2.2, goes_sc hkk i p hp⟩)
    (fun j hj => Nat.le_trans (cnt_mono _ _ h16) (goes_cnt hg (by omega))) v 0 (List.replicate v.length .zero) (by omega) hv (by simp) (fun j hj => by
      rw [rep_getD]
      exact (Ov.zero _).mono (Int.mul_nonneg (by omega) hK0))
  have hO : agO g v = some o := by
    unfold agO
    rw [hst, hg]
    exact h1
  obtain ⟨a1, -, a3⟩ := agO_val hO
  rw [agV_of hO]
  refine ⟨agB_of hO, a1, a3, fun x hx => ?_⟩
  obtain ⟨j, hj, rfl⟩ := List.mem_iff_getElem.1 hx
  have := h3 j (by omega)
  rwa [List.getD_eq_getElem?_getD, List.getElem?_eq_getElem hj] at this
theorem pow_scK {h : Nat} (k : Int) : ((1 + scK k : Nat) : Int) * 2 ^ h = 2 ^ (h + scK k) := by
  unfold scK
  split
  · rw [Int.pow_succ]; omega
  · simp
theorem pow_small : ∀ h : Nat, h ≤ 29 → (2 : Int) ^ h ≤ 536870912 := by
  intro h hh
  have : ∀ k : Fin 30, (2 : Int) ^ k.val ≤ 536870912 := by decide
  exact this ⟨h, by omega⟩
theorem agsF_found : ∀ (L : List Gt) (v : List Dw) (h : Nat), stB v = true → (∀ g ∈ L, gtB g (qc v.length) = true) → h + hs L ≤ 29 → (∀ x ∈ v, Ov h (2 ^ h) x) → (agsF L v).isSome = true
  | [], _, _, _, _, _, _ => rfl
  | g :: L, v, h, hst, hg, hh, hv => by
    rw [hs_cons] at hh
    have hle := scK_le g.k
    have h0 : (0 : Int) ≤ 2 ^ h := Int.pow_nonneg (by decide)
    have hp := pow_scK (h := h) g.k
    have hsm := pow_small (h + scK g.k) (by omega)
    obtain ⟨a1, a2, a3, a4⟩ := ag_found hst (hg g (List.mem_cons_self ..)) hv h0 (by rw [hp]; omega) (by omega)
    rw [agsF, if_pos a1]
    refine agsF_found L (agV g v) (h + scK g.k) a3 (fun x hx => by rw [a2]; exact hg x (List.mem_cons_of_mem _ hx)) (by omega) fun x hx => ?_
    rw [← hp]
    exact a4 x hx
theorem ov_one : Ov 0 1 oneD := ⟨oneD_ok, oneZ, vl_one, by unfold Mx; decide⟩
/-- Valid gates with at most 29 GateH are found at every basis state. -/
theorem cir_found {L : List Gt} {n : Nat} (h1 : 1 ≤ n) (h4 : n ≤ 4) (hv : ∀ g ∈ L, gtB g (n : Int) = true) (hh : hs L ≤ 29) : cirB L n = true := by
  unfold cirB
  rw [List.all_eq_true]
  intro i hi
  have hi := List.mem_range.1 hi
  have hl := basis_len h1 h4 hi
  have hq : qc (2 ^ n) = (n : Int) := qc_of (n := (n : Int)) (by omega)
  have hst : stB (basisL (n : Int) (i : Int)) = true := by
    refine stB_iff.2 ⟨fun x hx => ?_, by rw [hl, hq]; omega⟩
    unfold basisL at hx
    split at hx
    · rcases List.mem_or_eq_of_mem_set hx with h | rfl
      · rw [List.eq_of_mem_replicate h]; exact zero_ok
      · exact oneD_ok
    · cases hx
  have h := agsF_found L (basisL (n : Int) (i : Int)) 0 hst (by rw [hl, hq]; exact hv) (by omega) fun x hx => by
    unfold basisL at hx
    split at hx
    · rcases List.mem_or_eq_of_mem_set hx with h | rfl
      · rw [List.eq_of_mem_replicate h]; exact (Ov.zero 0).mono (by decide)
      · exact ov_one
    · cases hx
  unfold agsB agsO
  rw [if_pos hst]
  exact h
end Go.Proofs.Ytadimihfbpkilaa
