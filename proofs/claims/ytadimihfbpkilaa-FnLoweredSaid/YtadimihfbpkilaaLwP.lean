/- Plain: decompositions into basic gates; each performs its gate (a finite check); lists of gates, decomposed, do the same. -/
import Derived.Test.YtadimihfbpkilaaCpU
import Derived.Test.YtadimihfbpkilaaBaseB09
namespace Go.Proofs.Ytadimihfbpkilaa
/-- The paths of gates one behind the other from place i: where each ends, and its number. -/
def pth : List Gt → Nat → List (Nat × Zw)
  | [], i => [(i, oneZ)]
  | g :: L, i => (goesG g i).flatMap fun p => (pth L p.1).map fun q => (q.1, p.2.n.mul q.2)
/-- What paths give to place j. -/
def co : List (Nat × Zw) → Nat → Zw
  | [], _ => .zero
  | p :: r, j => if p.1 = j then p.2.add (co r j) else co r j
theorem co_app : ∀ (L M : List (Nat × Zw)) (j : Nat), co (L ++ M) j = (co L j).add (co M j)
  | [], M, j => by rw [List.nil_append, co, zero_add']
  | p :: r, M, j => by
    rw [List.cons_append, co, co, co_app r M j]
    split
    · rw [add_assoc']
    · rfl
theorem co_mul (z : Zw) (j : Nat) : ∀ L : List (Nat × Zw), co (L.map fun q => (q.1, z.mul q.2)) j = z.mul (co L j)
  | [] => by rw [List.map_nil, co, mul_zero']
  | p :: r => by
    rw [List.map_cons, co, co, co_mul z j r]
    split
    · rw [mul_add']
    · rfl
theorem cfs_pth (F : Nat → List (Nat × Zw)) (j : Nat) : ∀ M : List (Nat × Dw), cfs (nums M) (fun m => co (F m) j) = co (M.flatMap fun p => (F p.1).map fun q => (q.1, p.2.n.mul q.2)) j
  | [] => rfl
  | p :: r => by
    rw [show nums (p :: r) = (p.1, (⟨p.2.n, 1⟩ : Dw)) :: nums r from rfl, cfs, List.flatMap_cons, co_app, co_mul, cfs_pth F j r]
    rfl
theorem cfs_same {f f' : Nat → Zw} : ∀ {L : List (Nat × Dw)}, (∀ p ∈ L, f p.1 = f' p.1) → cfs L f = cfs L f'
  | [], _ => rfl
  | p :: r, h => by rw [cfs, cfs, h p (List.mem_cons_self ..), cfs_same fun q hq => h q (List.mem_cons_of_mem _ hq)]
theorem cl1_pth {N : Nat} : ∀ {L : List Gt}, (∀ g ∈ L, gtB g (qc N) = true) → ∀ i, i < N → ∀ j, j < N → cl1 N L i j = co (pth L i) j
  | [], _, i, hi, j, hj => by
    rw [cl1, pth, co, co, add_zero']
  | g :: L, h, i, hi, j, hj => by
    have hin : ∀ p ∈ nums (goesG g i), p.1 < N := fun p hp => by
      obtain ⟨q, hq, rfl⟩ := List.mem_map.1 hp
      exact goesG_in (h g (List.mem_cons_self ..)) hi q hq
    rw [cl1, cf_sum _ _ hin, pth, ← cfs_pth (fun m => pth L m) j]
    exact cfs_same fun p hp => cl1_pth (fun g hg => h g (List.mem_cons_of_mem _ hg)) p.1 (hin p hp) j hj
theorem cl1_app (N : Nat) : ∀ (L M : List Gt) (i j : Nat), i < N → cl1 N (L ++ M) i j = sumZ N fun m => (cl1 N L i m).mul (cl1 N M m j)
  | [], M, i, j, hi => by
    rw [List.nil_append, sumZ_one (fun m => (cl1 N [] i m).mul (cl1 N M m j)) hi fun m _ hm => by rw [cl1, if_neg fun e => hm e.symm, zero_mul']]
    rw [cl1, if_pos rfl, oneZ_mul]
  | g :: L, M, i, j, hi => by
    rw [List.cons_append, cl1]
    have h1 : ∀ m, m < N → (cf (nums (goesG g i)) m).mul (cl1 N (L ++ M) m j) = sumZ N fun q => ((cf (nums (goesG g i)) m).mul (cl1 N L m q)).mul (cl1 N M q j) := fun m hm => by
      rw [cl1_app N L M m j hm, mul_sumZ]
      exact sumZ_congr fun q _ => (mul_assoc' _ _ _).symm
    rw [sumZ_congr h1, sumZ_swap]
    refine sumZ_congr fun q _ => ?_
    rw [cl1, sumZ_mul]
/-- A gate's decomposition performs it. -/
def dcOk (k : Int) (A B C : Nat) : Bool := (List.range 16).all fun i => (List.range 16).all fun j => decide (co (pth (dcG ⟨k, A, B, C⟩) i) j = rootN (hs (dcG ⟨k, A, B, C⟩) - scK k) (co (pth [⟨k, A, B, C⟩] i) j))
theorem dc_2 : ([10, 11] : List Int).all (fun k => (List.range 4).all fun A => (List.range 4).all fun B => A == B || dcOk k A B 0) = true := by decide +kernel
theorem dc_3 : ((List.range 4).all fun A => (List.range 4).all fun B => (List.range 4).all fun C => A == B || C == A || C == B || dcOk 12 A B C) = true := by decide +kernel
theorem dc_gate {g : Gt} {n : Int} (h : gtB g n = true) {i j : Nat} (hi : i < 16) (hj : j < 16) : co (pth (dcG g) i) j = rootN (hs (dcG g) - scK g.k) (co (pth [g] i) j) := by
  obtain ⟨hn, hk, ha, hb, hc⟩ := gtB_parts h
  have use : ∀ {k : Int} {A B C : Nat}, dcOk k A B C = true → co (pth (dcG ⟨k, A, B, C⟩) i) j = rootN (hs (dcG ⟨k, A, B, C⟩) - scK k) (co (pth [⟨k, A, B, C⟩] i) j) := fun h => by
    have h1 := List.all_eq_true.1 h i (List.mem_range.2 hi)
    exact of_decide_eq_true (List.all_eq_true.1 h1 j (List.mem_range.2 hj))
  have hkd := gtB_kinds h
  obtain ⟨k, a, b, c⟩ := g
  simp only at hk ha hb hc hkd ⊢
  obtain ⟨a, rfl⟩ := Int.eq_ofNat_of_zero_le ha.1
  obtain ⟨b, rfl⟩ := Int.eq_ofNat_of_zero_le hb.1
  obtain ⟨c, rfl⟩ := Int.eq_ofNat_of_zero_le hc.1
  by_cases h9 : k ≤ 9
  · have e : dcG ⟨k, (a : Int), (b : Int), (c : Int)⟩ = [⟨k, (a : Int), (b : Int), (c : Int)⟩] := by
      unfold dcG
      rw [if_neg (by simp only; omega), if_neg (by simp only; omega), if_neg (by simp only; omega)]
    rw [e, show hs [⟨k, (a : Int), (b : Int), (c : Int)⟩] - scK k = 0 by simp [hs]]
    rfl
  · rcases hkd with h1 | h1 | h1
    · omega
    · obtain ⟨h1, h2, h3, h4⟩ := h1
      obtain rfl : c = 0 := by omega
      have hm : k ∈ ([10, 11] : List Int) := by
        rcases (show k = 10 ∨ k = 11 by omega) with rfl | rfl <;> decide
      have h5 := List.all_eq_true.1 (List.all_eq_true.1 (List.all_eq_true.1 dc_2 k hm) a (List.mem_range.2 (by omega))) b (List.mem_range.2 (by omega))
      rw [Bool.or_eq_true] at h5
      rcases h5 with h5 | h5
      · exact absurd (eq_of_beq h5) (by omega)
      · exact use h5
    · obtain ⟨rfl, h2, h3, h4⟩ := h1
      have h5 := List.all_eq_true.1 (List.all_eq_true.1 (List.all_eq_true.1 dc_3 a (List.mem_range.2 (by omega))) b (List.mem_range.2 (by omega))) c (List.mem_range.2 (by omega))
      rw [Bool.or_eq_true, Bool.or_eq_true, Bool.or_eq_true] at h5
      rcases h5 with ((h5 | h5) | h5) | h5
      · exact absurd (eq_of_beq h5) (by omega)
      · exact absurd (eq_of_beq h5) (by omega)
      · exact absurd (eq_of_beq h5) (by omega)
      · exact use h5
theorem hs_appL (L M : List Gt) : hs (L ++ M) = hs L + hs M := by simp [hs]
theorem gt_one_all : ∀ n : Fin 4, ∀ k : Fin 8, ∀ q : Fin 4, q.val < n.val + 1 → gtB ⟨((k.val + 1 : Nat) : Int), (q.val : Nat), 0, 0⟩ ((n.val + 1 : Nat) : Int) = true := by decide +kernel
theorem gt_cx_all : ∀ n : Fin 4, ∀ q : Fin 4, ∀ r : Fin 4, q.val < n.val + 1 → r.val < n.val + 1 → q.val ≠ r.val → gtB ⟨9, (q.val : Nat), (r.val : Nat), 0⟩ ((n.val + 1 : Nat) : Int) = true := by decide +kernel
theorem gt_one {n k q : Int} (hn : 1 ≤ n ∧ n ≤ 4) (hk : 1 ≤ k ∧ k ≤ 8) (hq : 0 ≤ q ∧ q < n) : gtB ⟨k, q, 0, 0⟩ n = true := by
  have h := gt_one_all ⟨n.toNat - 1, by omega⟩ ⟨k.toNat - 1, by omega⟩ ⟨q.toNat, by omega⟩ (by simp only; omega)
  simp only at h
  rw [show ((k.toNat - 1 + 1 : Nat) : Int) = k by omega, show ((q.toNat : Nat) : Int) = q by omega, show ((n.toNat - 1 + 1 : Nat) : Int) = n by omega] at h
  exact h
theorem gt_cx {n q r : Int} (hn : 1 ≤ n ∧ n ≤ 4) (hq : 0 ≤ q ∧ q < n) (hr : 0 ≤ r ∧ r < n) (hqr : q ≠ r) : gtB ⟨9, q, r, 0⟩ n = true := by
  have h := gt_cx_all ⟨n.toNat - 1, by omega⟩ ⟨q.toNat, by omega⟩ ⟨r.toNat, by omega⟩ (by simp only; omega) (by simp only; omega) (by simp only; omega)
  simp only at h
  rw [show ((q.toNat : Nat) : Int) = q by omega, show ((r.toNat : Nat) : Int) = r by omega, show ((n.toNat - 1 + 1 : Nat) : Int) = n by omega] at h
  exact h
theorem dcG_valid {g : Gt} {n : Int} (h : gtB g n = true) : ∀ x ∈ dcG g, gtB x n = true := by
  obtain ⟨hn, hk, ha, hb, hc⟩ := gtB_parts h
  have hkd := gtB_kinds h
  have a1 := fun k (hk : 1 ≤ k ∧ k ≤ 8) => gt_one hn hk ha
  have b1 := fun k (hk : 1 ≤ k ∧ k ≤ 8) => gt_one hn hk hb
  have c1 := fun k (hk : 1 ≤ k ∧ k ≤ 8) => gt_one hn hk hc
  unfold dcG
  split
  · have hab : g.b ≠ g.a := by omega
    have x1 := gt_cx hn ha hb (fun e => hab e.symm)
    intro x hx
    simp only [List.mem_cons, List.not_mem_nil, or_false] at hx
    rcases hx with rfl | rfl | rfl
    · exact b1 4 (by omega)
    · exact x1
    · exact b1 4 (by omega)
  · split
    · have hab : g.b ≠ g.a := by omega
      have x1 := gt_cx hn ha hb (fun e => hab e.symm)
      have x2 := gt_cx hn hb ha hab
      intro x hx
      simp only [List.mem_cons, List.not_mem_nil, or_false] at hx
      rcases hx with rfl | rfl | rfl <;> assumption
    · split
      · have hab : g.b ≠ g.a ∧ g.c ≠ g.a ∧ g.c ≠ g.b := by omega
        have x1 := gt_cx hn ha hb (fun e => hab.1 e.symm)
        have x2 := gt_cx hn ha hc (fun e => hab.2.1 e.symm)
        have x3 := gt_cx hn hb hc (fun e => hab.2.2 e.symm)
        intro x hx
        simp only [List.mem_cons, List.not_mem_nil, or_false] at hx
        rcases hx with rfl | rfl | rfl | rfl | rfl | rfl | rfl | rfl | rfl | rfl | rfl | rfl | rfl | rfl | rfl <;> first | assumption | exact a1 _ (by decide) | exact b1 _ (by decide) | exact c1 _ (by decide)
      · intro x hx
        rw [List.mem_singleton] at hx
        subst hx
        exact h
theorem hs_dcG {g : Gt} : scK g.k ≤ hs (dcG g) ∧ hs (dcG g) ≤ 2 := by
  unfold dcG
  split
  · rename_i e; rw [e]; simp [hs, scK]
  · split
    · rename_i e; rw [e]; simp [hs, scK]
    · split
      · rename_i e; rw [e]; simp [hs, scK]
      · have := scK_le g.k
        simp [hs]; omega
theorem hs_dcL : ∀ L : List Gt, hs L ≤ hs (dcL L) ∧ hs (dcL L) ≤ 2 * L.length
  | [] => ⟨Nat.le_refl _, Nat.le_refl _⟩
  | g :: L => by
    have h1 := hs_dcL L
    have h2 := hs_dcG (g := g)
    rw [show dcL (g :: L) = dcG g ++ dcL L from rfl, hs_appL, hs_cons, List.length_cons]
    omega
theorem cl1_dc {N : Nat} (h16 : N ≤ 16) : ∀ (L : List Gt), (∀ g ∈ L, gtB g (qc N) = true) → ∀ i, i < N → ∀ j, j < N → cl1 N (dcL L) i j = rootN (hs (dcL L) - hs L) (cl1 N L i j)
  | [], _, i, hi, j, hj => rfl
  | g :: L, h, i, hi, j, hj => by
    have hg := h g (List.mem_cons_self ..)
    have hL := fun x hx => h x (List.mem_cons_of_mem _ hx)
    have h1 := hs_dcL L
    have h2 := hs_dcG (g := g)
    rw [show dcL (g :: L) = dcG g ++ dcL L from rfl, cl1_app N _ _ i j hi, show g :: L = [g] ++ L from rfl, cl1_app N [g] L i j hi, rootN_sumZ]
    refine sumZ_congr fun m hm => ?_
    rw [cl1_pth (dcG_valid hg) i hi m hm, dc_gate hg (by omega) (by omega), cl1_dc h16 L hL m hm j hj, ← cl1_pth (L := [g]) (fun x hx => by rw [List.mem_singleton] at hx; subst hx; exact hg) i hi m hm, ← rootN_mul2, hs_appL, hs_appL, show hs [g] = scK g.k by simp [hs]]
    congr 1; omega
theorem ags_dc {L : List Gt} {v w w' : List Dw} (hL : ∀ g ∈ L, gtB g (qc v.length) = true) (hs' : stB v = true) (h : agsF L v = some w) (h' : agsF (dcL L) v = some w') : w' = w := by
  obtain ⟨l1, s1, v1⟩ := ags_val h hs'
  obtain ⟨l2, s2, v2⟩ := ags_val h' hs'
  have h16 := stB_len hs'
  have hk : ∀ g ∈ L, 1 ≤ g.k ∧ g.k ≤ 12 := fun g hg => (gtB_parts (hL g hg)).2.1
  have hk' : ∀ g ∈ dcL L, 1 ≤ g.k ∧ g.k ≤ 12 := fun g hg => by
    obtain ⟨x, hx, hy⟩ := List.mem_flatMap.1 hg
    exact (gtB_parts (dcG_valid (hL x hx) g hy)).2.1
  have b1 := hs_le L
  have b2 := hs_le (dcL L)
  have b3 := (hs_dcL L).1
  have o1 := (stB_iff.1 s1).1
  have o2 := (stB_iff.1 s2).1
  refine getD_eq (l2.trans l1.symm) fun j hj => ?_
  rw [l1] at hj
  refine vl_inj (getD_ok o2 j) (getD_ok o1 j) ?_
  have e1 := v1 j hj
  have e2 := v2 j hj
  have c1 : (sumZ v.length fun i => (vl (v.getD i .zero)).mul (cl v.length L i j)) = rootN (L.length - hs L) (sumZ v.length fun i => (vl (v.getD i .zero)).mul (cl1 v.length L i j)) := by
    rw [rootN_sumZ]
    refine sumZ_congr fun i _ => ?_
    rw [cl_cl1 _ L hk, mul_comm', ← rootN_mul, mul_comm']
  have c2 : (sumZ v.length fun i => (vl (v.getD i .zero)).mul (cl v.length (dcL L) i j)) = rootN ((dcL L).length - hs L) (sumZ v.length fun i => (vl (v.getD i .zero)).mul (cl1 v.length L i j)) := by
    rw [rootN_sumZ]
    refine sumZ_congr fun i hi => ?_
    rw [cl_cl1 _ _ hk', cl1_dc h16 L hL i hi j hj, ← rootN_add, mul_comm', ← rootN_mul, mul_comm']
    congr 1; omega
  rw [c1] at e1
  rw [c2] at e2
  apply rootN_inj (k := L.length + (dcL L).length)
  have f1 := congrArg (rootN (dcL L).length) e1
  have f2 := congrArg (rootN L.length) e2
  rw [← rootN_add, ← rootN_add] at f1 f2
  rw [Nat.add_comm] at f2
  rw [f2, f1]
  congr 1; omega
end Go.Proofs.Ytadimihfbpkilaa
