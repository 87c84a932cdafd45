/- Plain: sums of states commute, the inner product is conjugate symmetric, a phase keeps the norm. -/
import Derived.Test.YtbohbhhgmglcdaaDsP
import Derived.Test.YtbohbhhgmglcdaaPhM
namespace Go.Proofs.Ytbohbhhgmglcdaa
theorem conj_addZ (x y : Zw) : (x.add y).conj = x.conj.add y.conj := by
  obtain ⟨a, b, c, d⟩ := x
  obtain ⟨p, q, r, s⟩ := y
  simp only [Zw.conj, Zw.add, Zw.mk.injEq]
  refine ⟨?_, ?_, ?_, ?_⟩ <;> first | trivial | omega
theorem dconj_conj {x : Dw} (h : x.ok) : dConjV (dConjV x) = x := by
  rw [show dConjV x = x.conj from if_pos h, show dConjV x.conj = x.conj.conj from if_pos (dconj_ok.2 h)]
  obtain ⟨⟨a, b, c, d⟩, e⟩ := x
  simp [Dw.conj, Zw.conj]
theorem conjV_ok {x : Dw} (h : x.ok) : (dConjV x).ok := by rw [show dConjV x = x.conj from if_pos h]; exact dconj_ok.2 h
theorem dconj_add {x y : Dw} (h : dAddB x y = true) (k : dAddB (dConjV x) (dConjV y) = true) : dAddV (dConjV x) (dConjV y) = dConjV (dAddV x y) := by
  have hx := (dAddB_iff.1 h).1
  have hy := (dAddB_iff.1 h).2.1
  have hs := dAddV_ok h
  have hk := dAddV_ok k
  have a1 := adds_of h
  have a2 := adds_of k
  rw [show dConjV x = x.conj from if_pos hx, show dConjV y = y.conj from if_pos hy] at a2 hk ⊢
  rw [show dConjV (dAddV x y) = (dAddV x y).conj from if_pos hs]
  refine unique hk (dconj_ok.2 hs) ?_
  generalize dAddV x.conj y.conj = r' at *
  generalize dAddV x y = r at *
  unfold Adds at a1 a2
  have a2 : rootN (x.e.toNat + y.e.toNat) r'.n = rootN r'.e.toNat ((rootN y.e.toNat x.n.conj).add (rootN x.e.toNat y.n.conj)) := a2
  show rootN r.e.toNat r'.n = rootN r'.e.toNat r.n.conj
  apply rootN_inj (k := x.e.toNat + y.e.toNat)
  rw [rootN_comm, a2, rootN_comm (x.e.toNat + y.e.toNat) r'.e.toNat, rootN_conj (x.e.toNat + y.e.toNat) r.n, a1, rootN_conj, rootN_conj, ← conj_addZ, rootN_comm r.e.toNat, rootN_conj]
theorem inn_conj : ∀ (l : List (Dw × Dw)) (s r r' : Dw), (∀ p ∈ l, p.1.ok ∧ p.2.ok) → s.ok → inn s l = some r → inn (dConjV s) (l.map fun p => (p.2, p.1)) = some r' → r' = dConjV r
  | [], s, r, r', _, _, h, h' => by
    simp [inn] at h h'
    rw [← h, ← h']
  | p :: l, s, r, r', hp, hs, h, h' => by
    obtain ⟨p1, p2⟩ := p
    have ⟨ok1, ok2⟩ := hp (p1, p2) (by simp)
    simp only [List.map_cons, inn] at h h'
    split at h
    · split at h'
      · rename_i c1 c2
        rw [Bool.and_eq_true] at c1 c2
        simp only [] at c1 c2 ok1 ok2
        have e : dMulV (dConjV p2) p1 = dConjV (dMulV (dConjV p1) p2) := by
          have := dconj_hom c1.1
          rw [dconj_conj ok1] at this
          rw [← this.2, dMulV_comm]
        rw [e] at c2 h'
        have e2 := dconj_add c1.2 c2.2
        rw [e2] at h'
        exact inn_conj l _ r r' (fun q hq => hp q (List.mem_cons_of_mem _ hq)) (dAddV_ok c1.2) h h'
      · cases h'
    · cases h
theorem inn_ok : ∀ (l : List (Dw × Dw)) (s r : Dw), s.ok → inn s l = some r → r.ok
  | [], s, r, hs, h => by
    simp [inn] at h
    rw [← h]; exact hs
  | p :: l, s, r, hs, h => by
    rw [inn] at h
    split at h
    · rename_i c
      rw [Bool.and_eq_true] at c
      exact inn_ok l _ r (dAddV_ok c.2) h
    · cases h
theorem innV_eb (a b : List Dw) : -9223372036854775808 ≤ (innV a b).e ∧ (innV a b).e ≤ 9223372036854775807 := by
  unfold innV
  cases h : innO a b with
  | none => exact ⟨by decide, by decide⟩
  | some r =>
    unfold innO at h
    split at h
    · have := (inn_ok _ _ _ (by decide) h).2
      show -9223372036854775808 ≤ r.e ∧ r.e ≤ 9223372036854775807
      omega
    · cases h
theorem zip_swap : ∀ (a b : List Dw), (a.zip b).map (fun p => (p.2, p.1)) = b.zip a
  | [], [] => rfl
  | [], _ :: _ => rfl
  | _ :: _, [] => rfl
  | x :: a, y :: b => by simp [zip_swap a b]
theorem inn_sym {a b : List Dw} (h : innB a b = true) (h' : innB b a = true) : dConjV (innV a b) = innV b a := by
  unfold innB at h h'
  unfold innV
  obtain ⟨r, hr⟩ := Option.isSome_iff_exists.1 h
  obtain ⟨r', hr'⟩ := Option.isSome_iff_exists.1 h'
  rw [hr, hr']
  unfold innO at hr hr'
  split at hr
  · rename_i c
    split at hr'
    · rw [Bool.and_eq_true, Bool.and_eq_true] at c
      have oka := (stB_iff.1 c.1.1).1
      have okb := (stB_iff.1 c.1.2).1
      have hz : dConjV .zero = .zero := by decide
      rw [← zip_swap a b, ← hz] at hr'
      exact (inn_conj (a.zip b) .zero r r' (fun p hp => ⟨oka _ (List.of_mem_zip hp).1, okb _ (List.of_mem_zip hp).2⟩) (by decide) hr hr').symm
    · cases hr'
  · cases hr
theorem zip_all (a b : List Dw) (p : Dw → Dw → Bool) (h : ∀ x y, p y x = p x y) : ((b.zip a).all fun q => p q.1 q.2) = (a.zip b).all fun q => p q.1 q.2 := by
  rw [← zip_swap a b, List.all_map]
  congr 1
  funext q
  exact h _ _
theorem addS_comm (a b : List Dw) : addSB b a = addSB a b ∧ addSL b a = addSL a b := by
  have hB : addSB b a = addSB a b := by
    unfold addSB
    rw [zip_all a b dAddB (fun x y => dAddB_comm x y), Bool.and_comm (stB b)]
    congr 2
    simp [eq_comm]
  refine ⟨hB, ?_⟩
  unfold addSL
  rw [hB]
  split
  · rw [← zip_swap a b, List.map_map]
    congr 1
    funext q
    exact dAddV_comm _ _
  · rfl
end Go.Proofs.Ytbohbhhgmglcdaa
