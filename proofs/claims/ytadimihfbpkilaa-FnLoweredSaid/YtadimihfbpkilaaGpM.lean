/- The phase between two matrices, and the phase back. -/
import Derived.Test.YtadimihfbpkilaaBaseB07
import Derived.Test.YtadimihfbpkilaaBaseB14
namespace Go.Proofs.Ytadimihfbpkilaa
theorem ph_rot {n : Zw} (h : n.ok) (k : Nat) (hk : k < 8) : (n.mul (phN k)).ok ∧ divB (n.mul (phN k)) = divB n := by
  obtain ⟨a, b, c, d⟩ := n
  unfold Zw.ok Near at h
  simp only [] at h
  rcases (show k = 0 ∨ k = 1 ∨ k = 2 ∨ k = 3 ∨ k = 4 ∨ k = 5 ∨ k = 6 ∨ k = 7 by omega) with rfl | rfl | rfl | rfl | rfl | rfl | rfl | rfl
  all_goals
    have e : ∀ x : Zw, divB x = decide (x.ok ∧ x.root.even) := fun _ => rfl
    simp only [phN, phL, List.getD_cons_zero, List.getD_cons_succ, Zw.mul, e, Zw.ok, Near, Zw.root, Zw.even]
    refine ⟨by omega, ?_⟩
    refine decide_eq_decide.2 ?_
    constructor <;> intro k <;> omega
theorem ph_assoc (n : Zw) (i j : Nat) (hi : i < 8) (hj : j < 8) : (n.mul (phN i)).mul (phN j) = n.mul ((phN i).mul (phN j)) := by
  obtain ⟨a, b, c, d⟩ := n
  rcases (show i = 0 ∨ i = 1 ∨ i = 2 ∨ i = 3 ∨ i = 4 ∨ i = 5 ∨ i = 6 ∨ i = 7 by omega) with rfl | rfl | rfl | rfl | rfl | rfl | rfl | rfl
  all_goals
    rcases (show j = 0 ∨ j = 1 ∨ j = 2 ∨ j = 3 ∨ j = 4 ∨ j = 5 ∨ j = 6 ∨ j = 7 by omega) with rfl | rfl | rfl | rfl | rfl | rfl | rfl | rfl
    all_goals
      simp only [phN, phL, List.getD_cons_zero, List.getD_cons_succ, Zw.mul, Zw.mk.injEq]
      omega
theorem ph_mul {x : Dw} (h : x.ok) (i : Int) : dMulB x (dPh i) = true ∧ dMulV x (dPh i) = ⟨x.n.mul (phN (i % 8).toNat), x.e⟩ := by
  obtain ⟨h1, h2⟩ := ph_rot h.1 _ (res8 i)
  have hy : (Dw.mk (x.n.mul (phN (i % 8).toNat)) x.e).ok := ⟨h1, h.2.1, h.2.2.1, by rw [h2]; exact h.2.2.2⟩
  have hs := newV_self hy
  have he : x.e + (dPh i).e = x.e := Int.add_zero _
  have hb : dMulB x (dPh i) = true := dMulB_iff.2 ⟨h, dPh_ok i, mulB_iff.2 ⟨h.1, (dPh_ok i).1, h1⟩, by rw [he]; exact hs.1⟩
  exact ⟨hb, by rw [dMulV_of hb, he]; exact hs.2⟩
theorem dPh_congr {i j : Int} (h : i % 8 = j % 8) : dPh i = dPh j := by unfold dPh; rw [h]
theorem ph_twice {x : Dw} (h : x.ok) (i j : Int) : dMulV (dMulV x (dPh i)) (dPh j) = dMulV x (dPh (i + j)) := by
  have h1 := ph_mul h i
  have hy : (dMulV x (dPh i)).ok := dMulV_ok h1.1
  rw [(ph_mul hy j).2, (ph_mul h (i + j)).2, h1.2]
  have hm := phN_mul ⟨_, res8 i⟩ ⟨_, res8 j⟩
  rw [show ((i + j) % 8).toNat = ((i % 8).toNat + (j % 8).toNat) % 8 by omega, ← hm]
  simp only [Dw.mk.injEq, and_true]
  exact ph_assoc _ _ _ (res8 i) (res8 j)
theorem ph_zero {x : Dw} (h : x.ok) {i : Int} (hi : i % 8 = 0) : dMulV x (dPh i) = x := by
  rw [(ph_mul h i).2, hi]
  show Dw.mk (x.n.mul ⟨1, 0, 0, 0⟩) x.e = x
  rw [mul_one']
theorem ph_fix {x : Dw} (h : x.ok) {i : Int} (hi : i % 8 ≠ 0) (he : dMulV x (dPh i) = x) (j : Int) : dMulV x (dPh j) = x := by
  have hz : x.n = ⟨0, 0, 0, 0⟩ := by
    rw [(ph_mul h i).2] at he
    have hn := congrArg Dw.n he
    simp only [] at hn
    have hk := res8 i
    have hk0 : (i % 8).toNat ≠ 0 := by omega
    generalize (i % 8).toNat = k at *
    obtain ⟨⟨a, b, c, d⟩, e⟩ := x
    simp only [] at hn ⊢
    rcases (show k = 1 ∨ k = 2 ∨ k = 3 ∨ k = 4 ∨ k = 5 ∨ k = 6 ∨ k = 7 by omega) with rfl | rfl | rfl | rfl | rfl | rfl | rfl
    all_goals
      simp only [phN, phL, List.getD_cons_zero, List.getD_cons_succ, Zw.mul, Zw.mk.injEq] at hn ⊢
      omega
  rw [(ph_mul h j).2, hz]
  obtain ⟨n, e⟩ := x
  simp only [] at hz
  subst hz
  simp [Zw.mul]
theorem sc_of {r : List Dw} (h : stB r = true) (i : Int) : scaleB r (dPh i) = true ∧ scaleL r (dPh i) = r.map fun y => dMulV y (dPh i) := by
  have hb : scaleB r (dPh i) = true := by
    unfold scaleB
    rw [h, Bool.true_and, List.all_eq_true]
    exact fun y hy => (ph_mul ((stB_iff.1 h).1 y hy) i).1
  exact ⟨hb, if_pos hb⟩
theorem sc_st {r : List Dw} (h : stB r = true) (i : Int) : stB (scaleL r (dPh i)) = true := by
  rw [(sc_of h i).2, stB_iff]
  obtain ⟨h1, h2⟩ := stB_iff.1 h
  refine ⟨fun y hy => ?_, by rw [List.length_map]; exact h2⟩
  obtain ⟨x, hx, rfl⟩ := List.mem_map.1 hy
  exact dMulV_ok (ph_mul (h1 x hx) i).1
theorem sc_twice {r : List Dw} (h : stB r = true) (i j : Int) : scaleL (scaleL r (dPh i)) (dPh j) = scaleL r (dPh (i + j)) := by
  rw [(sc_of (sc_st h i) j).2, (sc_of h i).2, (sc_of h (i + j)).2, List.map_map]
  exact List.map_congr_left fun x hx => ph_twice ((stB_iff.1 h).1 x hx) i j
theorem sc_zero {r : List Dw} (h : stB r = true) {i : Int} (hi : i % 8 = 0) : scaleL r (dPh i) = r := by
  rw [(sc_of h i).2]
  conv => rhs; rw [← List.map_id r]
  exact List.map_congr_left fun x hx => ph_zero ((stB_iff.1 h).1 x hx) hi
theorem sc_fix {r : List Dw} (h : stB r = true) {i : Int} (hi : i % 8 ≠ 0) (he : scaleL r (dPh i) = r) (j : Int) : scaleL r (dPh j) = r := by
  rw [(sc_of h i).2] at he
  rw [(sc_of h j).2]
  conv => rhs; rw [← List.map_id r]
  refine List.map_congr_left fun x hx => ?_
  refine ph_fix ((stB_iff.1 h).1 x hx) hi ?_ j
  have : ∀ y ∈ r, (fun y => dMulV y (dPh i)) y = id y := by
    rw [← List.map_inj_left, List.map_id]
    exact he
  exact this x hx
theorem gpAt_map : ∀ {A B : List (List Dw)}, A.length = B.length → (∀ r ∈ B, stB r = true) → ∀ i : Nat, gpAt A B i = decide (A = B.map fun r => scaleL r (dPh (i : Int)))
  | [], [], _, _, i => by simp [gpAt]
  | [], s :: B, h, _, i => by simp at h
  | r :: A, [], h, _, i => by simp at h
  | r :: A, s :: B, h, hB, i => by
    have ih := gpAt_map (A := A) (B := B) (by simpa using h) (fun t ht => hB t (List.mem_cons_of_mem _ ht)) i
    unfold gpAt at ih ⊢
    rw [List.zip_cons_cons, List.all_cons, ih, (sc_of (hB s List.mem_cons_self) i).1, Bool.true_and, Bool.eq_iff_iff]
    simp only [Bool.and_eq_true, decide_eq_true_eq, List.map_cons, List.cons.injEq]
    exact ⟨fun ⟨a, b⟩ => ⟨a.symm, b⟩, fun ⟨a, b⟩ => ⟨a.symm, b⟩⟩
theorem gp_some {A B : List (List Dw)} {i : Nat} (h : gpF A B = some i) : mtB A = true ∧ mtB B = true ∧ A.length = B.length ∧ i < 8 ∧ A = B.map fun r => scaleL r (dPh (i : Int)) := by
  unfold gpF at h
  split at h
  · rename_i hb
    simp only [Bool.and_eq_true, decide_eq_true_eq] at hb
    have h1 := List.find?_some h
    have h2 := List.mem_range.1 (List.mem_of_find?_eq_some h)
    rw [gpAt_map hb.2 (fun r hr => ((mtB_iff.1 hb.1.2).2 r hr).2), decide_eq_true_eq] at h1
    exact ⟨hb.1.1, hb.1.2, hb.2, h2, h1⟩
  · cases h
theorem map_twice {B : List (List Dw)} (h : ∀ r ∈ B, stB r = true) (i j : Int) : ((B.map fun r => scaleL r (dPh i)).map fun r => scaleL r (dPh j)) = B.map fun r => scaleL r (dPh (i + j)) := by
  rw [List.map_map]
  exact List.map_congr_left fun r hr => sc_twice (h r hr) i j
theorem gp_back {A B : List (List Dw)} {i : Nat} (h : gpF A B = some i) : ∃ k, gpF B A = some k ∧ (((i : Int) + k) % 8 = 0 ∨ A = B) := by
  obtain ⟨hA, hB, hl, hi, he⟩ := gp_some h
  have hst : ∀ r ∈ B, stB r = true := fun r hr => ((mtB_iff.1 hB).2 r hr).2
  have hsa : ∀ r ∈ A, stB r = true := fun r hr => ((mtB_iff.1 hA).2 r hr).2
  have hback : gpAt B A ((8 - i) % 8) = true := by
    rw [gpAt_map hl.symm hsa, decide_eq_true_eq, he, map_twice hst]
    conv => lhs; rw [← List.map_id B]
    exact (List.map_congr_left fun r hr => sc_zero (hst r hr) (by omega)).symm
  cases hk : gpF B A with
  | none =>
    exfalso
    unfold gpF at hk
    rw [if_pos (by rw [hA, hB]; simp [hl]), List.find?_eq_none] at hk
    exact hk ((8 - i) % 8) (List.mem_range.2 (by omega)) hback
  | some k =>
    refine ⟨k, rfl, ?_⟩
    obtain ⟨_, _, _, _, he2⟩ := gp_some hk
    by_cases hz : ((i : Int) + k) % 8 = 0
    · exact .inl hz
    · right
      have hfix : B = B.map fun r => scaleL r (dPh ((i : Int) + k)) := by
        rw [he, map_twice hst] at he2
        exact he2
      have hpt : ∀ r ∈ B, scaleL r (dPh ((i : Int) + k)) = r := by
        have : ∀ r ∈ B, (fun r => scaleL r (dPh ((i : Int) + k))) r = id r := by
          rw [← List.map_inj_left, List.map_id]
          exact hfix.symm
        exact this
      rw [he]
      conv => rhs; rw [← List.map_id B]
      exact List.map_congr_left fun r hr => sc_fix (hst r hr) hz (hpt r hr) i
theorem gpV_rg (A B : List (List Dw)) : 0 ≤ gpV A B ∧ gpV A B ≤ 7 := by
  unfold gpV
  cases h : gpF A B with
  | none => exact ⟨Int.le_refl _, by decide⟩
  | some i =>
    obtain ⟨_, _, _, hi, _⟩ := gp_some h
    exact ⟨Int.natCast_nonneg _, by show (i : Int) ≤ 7; omega⟩
/-- What the law asks. -/
theorem gp_law (A B : List (List Dw)) : gpB B A = gpB A B ∧ (gpB A B = true → (gpV A B + gpV B A) % 8 = 0 ∨ A = B) := by
  unfold gpB gpV
  cases h : gpF A B with
  | none =>
    cases k : gpF B A with
    | none => exact ⟨rfl, fun h => by cases h⟩
    | some j => obtain ⟨i, hi, _⟩ := gp_back k; rw [h] at hi; cases hi
  | some i =>
    obtain ⟨k, hk, hlaw⟩ := gp_back h
    rw [hk]
    exact ⟨rfl, fun _ => hlaw⟩
end Go.Proofs.Ytadimihfbpkilaa
