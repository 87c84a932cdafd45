/- UBaseC10: several of our texts in one: ULwP UCpV UCtP UCtU ULyM UApKe UApK UCtW. -/
import Derived.Test.YtlmiebeffdcfhaaGreatUBaseC05
import Derived.Test.YtlmiebeffdcfhaaGreatUBaseC02
import Derived.Test.YtlmiebeffdcfhaaGreatUBaseC03
import Derived.Test.YtlmiebeffdcfhaaGreatUBaseB16
import Derived.Test.YtlmiebeffdcfhaaGreatUBaseB19
import Derived.Test.YtlmiebeffdcfhaaGreatUApKd
import Derived.Test.YtlmiebeffdcfhaaGreatUBaseB17
import Derived.Lib.SliceRun
import Derived.Test.YtlmiebeffdcfhaaGreatUBaseB20
import Derived.Test.YtlmiebeffdcfhaaGreatUMtKc
import Derived.Test.YtlmiebeffdcfhaaGreatUBaseC09
namespace Go.Proofs.YtlmiebeffdcfhaaGreat
end Go.Proofs.YtlmiebeffdcfhaaGreat
namespace Go.Proofs.YtlmiebeffdcfhaaGreat
theorem Ov.conj {t : Nat} {K : Int} {x : Dw} (h : Ov t K x) : Ov t K (dConjV x) := by
  obtain ⟨hx, P, hP, hK⟩ := h
  have e : dConjV x = x.conj := if_pos hx
  rw [e]
  refine ⟨dconj_ok.2 hx, P.conj, ?_, hK.conj⟩
  rw [show vl x.conj = (vl x).conj from rootN_conj _ _, rootN_conj, hP, rootN_conj]
end Go.Proofs.YtlmiebeffdcfhaaGreat
namespace Go.Proofs.YtlmiebeffdcfhaaGreat
end Go.Proofs.YtlmiebeffdcfhaaGreat
namespace Go.Proofs.YtlmiebeffdcfhaaGreat
theorem mrow_skip : ∀ (l : List (Dw × Dw)) (s : Dw), (∀ p ∈ l, p.1 = .zero ∨ p.2 = .zero) → mrow s l = some s
  | [], _, _ => rfl
  | p :: r, s, h => by
    rw [mrow, if_pos (h p List.mem_cons_self)]
    exact mrow_skip r s fun q hq => h q (List.mem_cons_of_mem _ hq)
theorem basis_map {n j : Nat} : (List.replicate n Dw.zero).set j oneD = (List.range n).map fun k => if j = k then oneD else .zero := by
  apply List.ext_getElem
  · simp
  · intro i h1 h2
    rw [List.getElem_set, List.getElem_map, List.getElem_range]
    split <;> simp
theorem idM_mk {n : Nat} (h : 0 < qc n) : idM (qc n) = mkM n fun i k => if i = k then oneD else .zero := by
  obtain ⟨a, b, c⟩ := qc_pow h
  unfold idM mkM
  rw [if_pos ⟨a, b⟩, ← c]
  refine List.map_congr_left fun i hi => ?_
  rw [basis_eq h (List.mem_range.1 hi), basis_map]
theorem adj_zip {M : List (List Dw)} (h : mtB M = true) {i : Nat} (hi : i < M.length) (k : Nat) :
    rowO ((adjM M).getD i []) (col M k) = mrow .zero ((List.range M.length).map fun x => (dConjV ((M.getD x []).getD i .zero), (M.getD x []).getD k .zero)) := by
  rw [adjM_mk h, mkM_row hi, col_at, rowO, List.zip_map']
theorem adj_len {M : List (List Dw)} (h : mtB M = true) : (adjM M).length = M.length := by rw [adjM_mk h, mkM_len]
/-- Unitary: each two columns' product is that of the identity. -/
theorem uni_iff {M : List (List Dw)} (h : mtB M = true) : uniB M = true ↔ ∀ i k, i < M.length → k < M.length → mrow .zero ((List.range M.length).map fun x => (dConjV ((M.getD x []).getD i .zero), (M.getD x []).getD k .zero)) = some (if i = k then oneD else .zero) := by
  have hq := mtB_qc h
  have hl := adj_len h
  constructor
  · intro hu i k hi hk
    unfold uniB at hu
    simp only [Bool.and_eq_true, decide_eq_true_eq] at hu
    obtain ⟨⟨_, h1⟩, h2⟩ := hu
    rw [← adj_zip h hi k]
    obtain ⟨_, _, _, h3⟩ := mul_parts h1
    have h4 := app_row (h3 k hk) (i := i) (by rw [hl]; exact hi)
    rw [mulM_mk h1, hl, idM_mk hq] at h2
    have h5 := congrArg (fun X => (X.getD i []).getD k Dw.zero) h2
    rw [mkM_at hi hk, mkM_at hi hk] at h5
    unfold rowB at h4
    unfold rowV at h5
    obtain ⟨v, hv⟩ := Option.isSome_iff_exists.1 h4
    rw [hv] at h5 ⊢
    rw [← h5]
    rfl
  · intro hz
    have hz' : ∀ i k, i < M.length → k < M.length → rowO ((adjM M).getD i []) (col M k) = some (if i = k then oneD else .zero) := fun i k hi hk => by rw [adj_zip h hi k]; exact hz i k hi hk
    have hm : mulMB (adjM M) M = true := by
      unfold mulMB
      simp only [Bool.and_eq_true, decide_eq_true_eq, List.all_eq_true]
      refine ⟨⟨⟨adjM_mt h, h⟩, hl⟩, fun k hk => ?_⟩
      have hk := List.mem_range.1 hk
      unfold appB
      simp only [Bool.and_eq_true, decide_eq_true_eq, List.all_eq_true]
      refine ⟨⟨⟨adjM_mt h, stB_iff.2 ⟨col_ok h hk, by rw [col_len]; exact hq⟩⟩, by rw [col_len, hl]⟩, fun r hr => ?_⟩
      obtain ⟨i, hi, rfl⟩ := List.getElem_of_mem hr
      have hi' : i < M.length := by rw [← hl]; exact hi
      have := hz' i k hi' hk
      rw [List.getD_eq_getElem?_getD, List.getElem?_eq_getElem hi] at this
      unfold rowB
      simp only [Option.getD_some] at this
      rw [this]
      rfl
    unfold uniB
    simp only [Bool.and_eq_true, decide_eq_true_eq]
    refine ⟨⟨h, hm⟩, ?_⟩
    rw [mulM_mk hm, hl, idM_mk hq]
    refine mkM_congr fun i k hi hk => ?_
    unfold rowV
    rw [hz' i k hi hk]
    rfl
theorem conj_one : dConjV oneD = oneD := by decide +kernel
theorem conj_zero : dConjV .zero = .zero := by decide +kernel
theorem ctV_mk (q : Nat) (M : List (List Dw)) : ctV q M = mkM M.length fun k i => if bitN i q then (M.getD k []).getD i .zero else if i = k then oneD else .zero := rfl
theorem ctV_mt {q : Nat} {M : List (List Dw)} (h : mtB M = true) : mtB (ctV q M) = true := by
  rw [ctV_mk]
  refine mkM_mt (mtB_iff.1 h).1 (mtB_qc h) fun i j hi hj => ?_
  split
  · exact mt_ok h hi hj
  · split
    · exact oneD_ok
    · exact zero_ok
/-- What the law asks. -/
theorem ct_uni {q : Int} {M : List (List Dw)} (h : ctMB q M = true) (hu : uniB M = true) : uniB (ctV q.toNat M) = true := by
  unfold ctMB at h
  simp only [Bool.and_eq_true, decide_eq_true_eq, List.all_eq_true, Bool.or_eq_true] at h
  obtain ⟨hM, _, hz⟩ := h
  have hz : ∀ i k, i < M.length → k < M.length → bitN i q.toNat ≠ bitN k q.toNat → (M.getD i []).getD k .zero = .zero := fun i k hi hk hb => by
    rcases hz i (List.mem_range.2 hi) k (List.mem_range.2 hk) with e | e
    · exact absurd (eq_of_beq e) hb
    · exact e
  have hC := ctV_mt (q := q.toNat) hM
  have hl : (ctV q.toNat M).length = M.length := by rw [ctV_mk, mkM_len]
  have hat : ∀ k i, k < M.length → i < M.length → ((ctV q.toNat M).getD k []).getD i .zero = if bitN i q.toNat then (M.getD k []).getD i .zero else if i = k then oneD else .zero := fun k i hk hi => by rw [ctV_mk, mkM_at hk hi]
  have hM' := (uni_iff hM).1 hu
  refine (uni_iff hC).2 fun i k hi hk => ?_
  rw [hl] at hi hk ⊢
  have hmap : ∀ f g : Nat → Dw × Dw, (∀ x, x < M.length → f x = g x) → (List.range M.length).map f = (List.range M.length).map g := fun f g hfg => List.map_congr_left fun x hx => hfg x (List.mem_range.1 hx)
  rw [hmap _ (fun x => (dConjV (if bitN i q.toNat then (M.getD x []).getD i .zero else if i = x then oneD else .zero), if bitN k q.toNat then (M.getD x []).getD k .zero else if k = x then oneD else .zero)) fun x hx => by rw [hat x i hx hi, hat x k hx hk]]
  by_cases hbk : bitN k q.toNat = true
  · by_cases hbi : bitN i q.toNat = true
    · simp only [hbi, hbk, if_true]
      exact hM' i k hi hk
    · have hne : bitN i q.toNat ≠ bitN k q.toNat := fun e => hbi (e.trans hbk)
      have hik : ¬ i = k := fun e => hne (by rw [e])
      rw [if_neg hik]
      refine mrow_skip _ _ fun p hp => ?_
      obtain ⟨x, hx, rfl⟩ := List.mem_map.1 hp
      have hx := List.mem_range.1 hx
      simp only [hbk, if_true]
      rw [if_neg hbi]
      by_cases hix : i = x
      · subst hix
        right
        exact hz i k hi hk hne
      · left
        rw [if_neg hix]
        exact conj_zero
  · have hcol : (List.range M.length).map (fun x => (dConjV (if bitN i q.toNat then (M.getD x []).getD i .zero else if i = x then oneD else .zero), if bitN k q.toNat then (M.getD x []).getD k .zero else if k = x then oneD else .zero))
        = ((List.range M.length).map fun x => dConjV (if bitN i q.toNat then (M.getD x []).getD i .zero else if i = x then oneD else .zero)).zip ((List.replicate ((List.range M.length).map fun x => dConjV (if bitN i q.toNat then (M.getD x []).getD i .zero else if i = x then oneD else .zero)).length .zero).set k oneD) := by
      rw [List.length_map, List.length_range, basis_map, List.zip_map']
      refine hmap _ _ fun x hx => ?_
      rw [if_neg hbk]
    rw [hcol, mrow_basis _ _ (fun y hy => by
      obtain ⟨x, hx, rfl⟩ := List.mem_map.1 hy
      have hx := List.mem_range.1 hx
      refine conjV_ok ?_
      split
      · exact mt_ok hM hx hi
      · split
        · exact oneD_ok
        · exact zero_ok) (by rw [List.length_map, List.length_range]; exact hk), range_getD hk]
    congr 1
    by_cases hbi : bitN i q.toNat = true
    · have hne : bitN k q.toNat ≠ bitN i q.toNat := fun e => hbk (e.trans hbi)
      have hik : ¬ i = k := fun e => hne (by rw [e])
      rw [if_pos hbi, if_neg hik, hz k i hk hi hne, conj_zero]
    · rw [if_neg hbi]
      split
      · rw [conj_one]
      · rw [conj_zero]
end Go.Proofs.YtlmiebeffdcfhaaGreat
namespace Go.Proofs.YtlmiebeffdcfhaaGreat
-- found
theorem Mx.turn {K : Int} {x y : Zw} (h : Mx K x) (hy : y ∈ phL) : Mx K (x.mul y) := by
  unfold Mx at h ⊢
  simp only [phL, List.mem_cons, List.not_mem_nil, or_false] at hy
  rcases hy with rfl | rfl | rfl | rfl | rfl | rfl | rfl | rfl <;> (simp only [Zw.mul]; omega)
theorem Mx.mono {K J : Int} {x : Zw} (h : Mx K x) (hKJ : K ≤ J) : Mx J x := by unfold Mx at h ⊢; omega
theorem Ov.mono {t : Nat} {K J : Int} {x : Dw} (h : Ov t K x) (hKJ : K ≤ J) : Ov t J x := by
  obtain ⟨hx, P, hP, hK⟩ := h
  exact ⟨hx, P, hP, hK.mono hKJ⟩
theorem Ov.turn {t s : Nat} {K : Int} {x y : Dw} (h : Ov t K x) (hy : y.ok) (hn : y.n ∈ phL) (hs : y.e.toNat = s) (hs1 : s ≤ 1) (hK : K ≤ 1073741824) (ht : t ≤ 59) : dMulB x y = true ∧ Ov (t + s) K (dMulV x y) := by
  obtain ⟨hx, P, hP, hPK⟩ := id h
  obtain ⟨ex, mx⟩ := h.exp
  have x0 := hx.2.1
  have y0 := hy.2.1
  have hmul : Mx K (x.n.mul y.n) := (mx 0 (by omega)).turn hn
  have hok : (x.n.mul y.n).ok := hmul.ok hK
  have hB : dMulB x y = true := by
    rw [dMulB_iff]
    refine ⟨hx, hy, ?_, ?_⟩
    · unfold mulB
      rw [decide_eq_true_eq]
      exact ⟨hx.1, hy.1, hok⟩
    · rw [newB_iff]
      refine ⟨hok, by omega, by omega, ?_⟩
      have := red_le (x.e + y.e).toNat (x.n.mul y.n)
      omega
  refine ⟨hB, dMulV_ok hB, P.mul y.n, ?_, hPK.turn hn⟩
  have hv := vl_mul hB
  have hQ : rootN s (vl y) = rootN 60 y.n := by
    unfold vl
    rw [hs, ← rootN_add]
    congr 1; omega
  apply rootN_inj (k := 60)
  rw [rootN_comm, hv, rootN_mul2, hP, hQ, ← rootN_mul2, rootN_add]
theorem Ov.zero (t : Nat) : Ov t 0 .zero := ⟨zero_ok, .zero, by rw [vl_zero, rootN_z, rootN_z], by unfold Mx; decide⟩
end Go.Proofs.YtlmiebeffdcfhaaGreat
namespace Go.Proofs.YtlmiebeffdcfhaaGreat
open Go.RowKit
attribute [local irreducible] World.cell?
end Go.Proofs.YtlmiebeffdcfhaaGreat
namespace Go.Proofs.YtlmiebeffdcfhaaGreat
open Go.RowKit
attribute [local irreducible] World.cell?
end Go.Proofs.YtlmiebeffdcfhaaGreat
namespace Go.Proofs.YtlmiebeffdcfhaaGreat
/-- What the law asks of a matrix. -/
theorem law_ctU {q : Int} {M : List (List Dw)} (h : ctMB q M = true) (hu : uniB M = true) : uniB (ctM q M) = true := by
  rw [show ctM q M = ctV q.toNat M by unfold ctM; rw [h]; rfl]
  exact ct_uni h hu
end Go.Proofs.YtlmiebeffdcfhaaGreat
