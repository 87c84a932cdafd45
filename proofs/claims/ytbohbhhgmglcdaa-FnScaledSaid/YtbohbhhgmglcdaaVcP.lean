/- Plain: multiplying by a phase keeps the sum of the squared norms. -/
import Derived.Test.YtbohbhhgmglcdaaVcM
namespace Go.Proofs.Ytbohbhhgmglcdaa
theorem ph_norm (X : Zw) (n : Nat) (h : n < 8) : ((X.mul (phN n)).conj).mul (X.mul (phN n)) = X.conj.mul X := by
  obtain ⟨a, b, c, d⟩ := X
  rcases (show n = 0 ∨ n = 1 ∨ n = 2 ∨ n = 3 ∨ n = 4 ∨ n = 5 ∨ n = 6 ∨ n = 7 by omega) with rfl | rfl | rfl | rfl | rfl | rfl | rfl | rfl
  all_goals simp [phN, phL, Zw.mul, Zw.conj, Int.mul_neg, Int.neg_mul]
  all_goals (try simp only [Int.mul_comm b a, Int.mul_comm c a, Int.mul_comm d a, Int.mul_comm c b, Int.mul_comm d b, Int.mul_comm d c])
  all_goals omega
theorem phase_norm {x : Dw} {i : Int} (hx : x.ok) (h : dMulB x (dPh i) = true) (ht : dMulB (dConjV x) x = true) (ht' : dMulB (dConjV (dMulV x (dPh i))) (dMulV x (dPh i)) = true) :
    dMulV (dConjV (dMulV x (dPh i))) (dMulV x (dPh i)) = dMulV (dConjV x) x := by
  have hx' := dMulV_ok h
  have m := muls_of h
  have m1 := muls_of ht
  have m2 := muls_of ht'
  have o1 := dMulV_ok ht
  have o2 := dMulV_ok ht'
  have hn := ph_norm x.n (i % 8).toNat (res8 i)
  rw [show dConjV (dMulV x (dPh i)) = (dMulV x (dPh i)).conj from if_pos hx'] at m2 o2 ⊢
  rw [show dConjV x = x.conj from if_pos hx] at m1 o1 ⊢
  refine unique o2 o1 ?_
  have m' : rootN x.e.toNat (dMulV x (dPh i)).n = rootN (dMulV x (dPh i)).e.toNat (x.n.mul (phN (i % 8).toNat)) := m
  generalize dMulV x (dPh i) = y at *
  have m1' : rootN (x.e.toNat + x.e.toNat) (dMulV x.conj x).n = rootN (dMulV x.conj x).e.toNat (x.n.conj.mul x.n) := m1
  have m2' : rootN (y.e.toNat + y.e.toNat) (dMulV y.conj y).n = rootN (dMulV y.conj y).e.toNat (y.n.conj.mul y.n) := m2
  generalize dMulV y.conj y = t' at *
  generalize dMulV x.conj x = t at *
  show rootN t.e.toNat t'.n = rootN t'.e.toNat t.n
  have key : rootN (x.e.toNat + x.e.toNat) (y.n.conj.mul y.n) = rootN (y.e.toNat + y.e.toNat) (x.n.conj.mul x.n) := by
    rw [rootN_mul2, rootN_conj, m', ← rootN_conj, ← rootN_mul2, hn]
  apply rootN_inj (k := (x.e.toNat + x.e.toNat) + (y.e.toNat + y.e.toNat))
  rw [rootN_add, rootN_add _ _ (rootN t'.e.toNat t.n)]
  rw [rootN_comm (x.e.toNat + x.e.toNat) t.e.toNat, rootN_comm (y.e.toNat + y.e.toNat) t.e.toNat, rootN_comm (y.e.toNat + y.e.toNat) (x.e.toNat + x.e.toNat), m2']
  rw [rootN_comm (x.e.toNat + x.e.toNat) t'.e.toNat (y.n.conj.mul y.n), key]
  rw [rootN_comm (x.e.toNat + x.e.toNat) t'.e.toNat t.n, m1']
  rw [rootN_comm (y.e.toNat + y.e.toNat) t'.e.toNat, rootN_comm (y.e.toNat + y.e.toNat) t.e.toNat, rootN_comm t.e.toNat t'.e.toNat]
theorem inn_phase (i : Int) : ∀ (l : List Dw) (s a b : Dw), (∀ x ∈ l, x.ok) → (l.all fun x => dMulB x (dPh i)) = true → inn s (l.zip l) = some a → inn s ((l.map fun x => dMulV x (dPh i)).zip (l.map fun x => dMulV x (dPh i))) = some b → a = b
  | [], s, a, b, _, _, h, h' => by
    simp [inn] at h h'
    rw [← h, ← h']
  | x :: l, s, a, b, ho, hp, h, h' => by
    rw [List.all_cons, Bool.and_eq_true] at hp
    simp only [List.zip_cons_cons, List.map_cons, inn] at h h'
    split at h
    · split at h'
      · rename_i c1 c2
        rw [Bool.and_eq_true] at c1 c2
        have e := phase_norm (ho x (by simp)) hp.1 c1.1 c2.1
        rw [e] at h'
        exact inn_phase i l _ a b (fun y hy => ho y (List.mem_cons_of_mem _ hy)) hp.2 h h'
      · cases h'
    · cases h
theorem norm_phase {l : List Dw} {i : Int} (hs : scaleB l (dPh i) = true) (h1 : innB l l = true) (h2 : innB (scaleL l (dPh i)) (scaleL l (dPh i)) = true) : innV l l = innV (scaleL l (dPh i)) (scaleL l (dPh i)) := by
  have hL : scaleL l (dPh i) = l.map fun x => dMulV x (dPh i) := if_pos hs
  unfold scaleB at hs
  rw [Bool.and_eq_true] at hs
  rw [hL] at h2 ⊢
  unfold innB at h1 h2
  unfold innV
  obtain ⟨a, ha⟩ := Option.isSome_iff_exists.1 h1
  obtain ⟨b, hb⟩ := Option.isSome_iff_exists.1 h2
  rw [ha, hb]
  unfold innO at ha hb
  split at ha
  · split at hb
    · exact inn_phase i l .zero a b (stB_iff.1 hs.1).1 hs.2 ha hb
    · cases hb
  · cases ha
end Go.Proofs.Ytbohbhhgmglcdaa
