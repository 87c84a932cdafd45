/- BaseB11: several of our texts in one: AdN AmM MtM MtU MtG PmL PmKp PmN. -/
import Derived.Test.YtkcpemkahkkcmaaBaseB09
import Derived.Test.YtkcpemkahkkcmaaBaseB22
import Derived.Test.YtkcpemkahkkcmaaBaseB16
import Derived.Test.YtkcpemkahkkcmaaBaseB10
import Derived.Test.YtkcpemkahkkcmaaPhS
namespace Go.Proofs.Ytkcpemkahkkcmaa
/-- A square of entries. -/
def mkM (n : Nat) (E : Nat → Nat → Dw) : List (List Dw) := (List.range n).map fun i => (List.range n).map fun j => E i j
theorem mkM_len (n : Nat) (E : Nat → Nat → Dw) : (mkM n E).length = n := by rw [mkM, List.length_map, List.length_range]
theorem range_getD {α : Type} {n i : Nat} (h : i < n) (f : Nat → α) (d : α) : ((List.range n).map f).getD i d = f i := by
  rw [List.getD_eq_getElem?_getD, List.getElem?_map, List.getElem?_range h]; rfl
theorem mkM_row {n i : Nat} (h : i < n) (E : Nat → Nat → Dw) : (mkM n E).getD i [] = (List.range n).map fun j => E i j := range_getD h _ _
theorem mkM_at {n i j : Nat} (hi : i < n) (hj : j < n) (E : Nat → Nat → Dw) : ((mkM n E).getD i []).getD j .zero = E i j := by rw [mkM_row hi, range_getD hj]
theorem mkM_congr {n : Nat} {E F : Nat → Nat → Dw} (h : ∀ i j, i < n → j < n → E i j = F i j) : mkM n E = mkM n F :=
  List.map_congr_left fun i hi => List.map_congr_left fun j hj => h i j (List.mem_range.1 hi) (List.mem_range.1 hj)
theorem mkM_mt {n : Nat} {E : Nat → Nat → Dw} (hn : 0 < n) (hq : 0 < qc n) (h : ∀ i j, i < n → j < n → (E i j).ok) : mtB (mkM n E) = true := by
  rw [mtB_iff, mkM_len]
  refine ⟨hn, fun r hr => ?_⟩
  obtain ⟨i, hi, rfl⟩ := List.mem_map.1 hr
  have hl : ((List.range n).map fun j => E i j).length = n := by rw [List.length_map, List.length_range]
  refine ⟨hl, stB_iff.2 ⟨fun x hx => ?_, by rw [hl]; exact hq⟩⟩
  obtain ⟨j, hj, rfl⟩ := List.mem_map.1 hx
  exact h i j (List.mem_range.1 hi) (List.mem_range.1 hj)
theorem mkM_self {M : List (List Dw)} (h : mtB M = true) : mkM M.length (fun i j => (M.getD i []).getD j .zero) = M := by
  conv => rhs; rw [← list_range M []]
  refine List.map_congr_left fun i hi => ?_
  have hi := List.mem_range.1 hi
  have hr := (mtB_row h (List.getElem?_eq_getElem hi)).1
  have hm : M.getD i [] = M[i] := by rw [List.getD_eq_getElem?_getD, List.getElem?_eq_getElem hi]; rfl
  show ((List.range M.length).map fun j => (M.getD i []).getD j .zero) = M.getD i []
  rw [← hm] at hr
  conv => rhs; rw [← list_range (M.getD i []) .zero, hr]
theorem mt_ok {M : List (List Dw)} (h : mtB M = true) {i j : Nat} (hi : i < M.length) (hj : j < M.length) : ((M.getD i []).getD j .zero).ok := by
  have hr := mtB_row h (List.getElem?_eq_getElem hi)
  rw [show M.getD i [] = M[i] by rw [List.getD_eq_getElem?_getD, List.getElem?_eq_getElem hi]; rfl]
  rw [List.getD_eq_getElem?_getD, List.getElem?_eq_getElem (by omega)]
  exact (stB_iff.1 hr.2).1 _ (List.getElem_mem _)
theorem col_at {M : List (List Dw)} (k : Nat) : col M k = (List.range M.length).map fun i => (M.getD i []).getD k .zero := by
  unfold col
  conv => lhs; rw [← list_range M []]
  rw [List.map_map]
  rfl
theorem adjM_mk {M : List (List Dw)} (h : mtB M = true) : adjM M = mkM M.length fun i j => dConjV ((M.getD j []).getD i .zero) := by
  rw [adjM_yes h]
  refine List.map_congr_left fun i _ => ?_
  rw [col_at, List.map_map]
  rfl
theorem adjM_mt {M : List (List Dw)} (h : mtB M = true) : mtB (adjM M) = true := by
  rw [adjM_mk h]
  exact mkM_mt (mtB_iff.1 h).1 (mtB_qc h) fun i j hi hj => conjV_ok (mt_ok h hj hi)
theorem adj_adj {M : List (List Dw)} (h : mtB M = true) : adjM (adjM M) = M := by
  rw [adjM_mk (adjM_mt h), adjM_len h]
  conv => rhs; rw [← mkM_self h]
  refine mkM_congr fun i j hi hj => ?_
  rw [adjM_mk h, mkM_at hj hi, dconj_conj (mt_ok h hi hj)]
theorem row_ok {M : List (List Dw)} (h : mtB M = true) {i : Nat} (hi : i < M.length) : (M.getD i []).length = M.length ∧ ∀ x ∈ M.getD i [], x.ok := by
  have hr := mtB_row h (List.getElem?_eq_getElem hi)
  rw [show M.getD i [] = M[i] by rw [List.getD_eq_getElem?_getD, List.getElem?_eq_getElem hi]; rfl]
  exact ⟨hr.1, (stB_iff.1 hr.2).1⟩
theorem col_ok {M : List (List Dw)} (h : mtB M = true) {k : Nat} (hk : k < M.length) : ∀ x ∈ col M k, x.ok := by
  rw [col_at]
  intro x hx
  obtain ⟨i, hi, rfl⟩ := List.mem_map.1 hx
  exact mt_ok h (List.mem_range.1 hi) hk
theorem app_row {A : List (List Dw)} {v : List Dw} (h : appB A v = true) {i : Nat} (hi : i < A.length) : rowB (A.getD i []) v = true := by
  unfold appB at h
  simp only [Bool.and_eq_true, List.all_eq_true] at h
  refine h.2 _ ?_
  rw [show A.getD i [] = A[i] by rw [List.getD_eq_getElem?_getD, List.getElem?_eq_getElem hi]; rfl]
  exact List.getElem_mem hi
/-- Entry by entry. -/
theorem adj_entry {A B : List (List Dw)} (h : mulMB A B = true) (h' : mulMB (adjM B) (adjM A) = true) {i k : Nat} (hi : i < A.length) (hk : k < A.length) :
    rowV ((adjM B).getD k []) (col (adjM A) i) = dConjV (rowV (A.getD i []) (col B k)) ∧ (rowV (A.getD i []) (col B k)).ok := by
  obtain ⟨hA, hB, hl, hall⟩ := mul_parts h
  obtain ⟨_, _, _, hall'⟩ := mul_parts h'
  have hr : (adjM B).getD k [] = (col B k).map dConjV := by rw [adjM_yes hB, range_getD (by omega)]
  have hc : col (adjM A) i = (A.getD i []).map dConjV := by
    rw [col_at, adjM_len hA]
    conv => rhs; rw [← list_range (A.getD i []) .zero, (row_ok hA hi).1]
    rw [List.map_map]
    refine List.map_congr_left fun j hj => ?_
    rw [adjM_mk hA, mkM_at (List.mem_range.1 hj) hi]
    rfl
  have h1 := app_row (hall k (by omega)) hi
  have h2 := app_row (hall' i (by rw [adjM_len hA]; exact hi)) (i := k) (by rw [adjM_len hB]; omega)
  rw [hr, hc] at h2 ⊢
  exact row_conj (row_ok hA hi).2 (col_ok hB (by omega)) h1 h2
theorem adj_mul {A B : List (List Dw)} (h : mulMB A B = true) (h' : mulMB (adjM B) (adjM A) = true) : adjM (mulM A B) = mulM (adjM B) (adjM A) := by
  obtain ⟨hA, hB, hl, _⟩ := mul_parts h
  have e1 : mulM A B = mkM A.length fun i k => rowV (A.getD i []) (col B k) := mulM_eq h
  have hm : mtB (mulM A B) = true := by
    rw [e1]
    exact mkM_mt (mtB_iff.1 hA).1 (mtB_qc hA) fun i k hi hk => (adj_entry h h' hi hk).2
  have e2 : mulM (adjM B) (adjM A) = mkM A.length fun i k => rowV ((adjM B).getD i []) (col (adjM A) k) := by
    rw [mulM_eq h', adjM_len hB, ← hl]; rfl
  rw [adjM_mk hm, e2, e1, mkM_len]
  refine mkM_congr fun i k hi hk => ?_
  rw [mkM_at hk hi, (adj_entry h h' hk hi).1]
theorem mrow_ok : ∀ (l : List (Dw × Dw)) (s r : Dw), s.ok → mrow s l = some r → r.ok
  | [], s, r, hs, h => by injection h with h; subst h; exact hs
  | p :: l, s, r, hs, h => by
    rw [mrow] at h
    split at h
    · exact mrow_ok l s r hs h
    · split at h
      · rename_i hb
        rw [Bool.and_eq_true] at hb
        exact mrow_ok l _ r (dAddV_ok hb.2) h
      · cases h
theorem rowV_ok (r v : List Dw) : (rowV r v).ok := by
  unfold rowV
  cases h : rowO r v with
  | none => decide
  | some x => exact mrow_ok _ _ _ (by decide) h
theorem mulM_mk {A B : List (List Dw)} (h : mulMB A B = true) : mulM A B = mkM A.length fun i k => rowV (A.getD i []) (col B k) := mulM_eq h
theorem mulM_mt {A B : List (List Dw)} (h : mulMB A B = true) : mtB (mulM A B) = true := by
  obtain ⟨hA, _, _, _⟩ := mul_parts h
  rw [mulM_mk h]
  exact mkM_mt (mtB_iff.1 hA).1 (mtB_qc hA) fun i k _ _ => rowV_ok _ _
theorem mt_eb {M : List (List Dw)} (h : mtB M = true) : EbM M := fun r hr x hx => by
  obtain ⟨_, h0, h1, _⟩ := (stB_iff.1 ((mtB_iff.1 h).2 r hr).2).1 x hx
  omega
theorem adjM_eb (M : List (List Dw)) : EbM (adjM M) := by
  cases h : mtB M with
  | false => rw [adjM_no h]; intro r hr; cases hr
  | true => exact mt_eb (adjM_mt h)
theorem mulM_eb (A B : List (List Dw)) : EbM (mulM A B) := by
  cases h : mulMB A B with
  | false => rw [show mulM A B = [] from if_neg (by rw [h]; decide)]; intro r hr; cases hr
  | true => exact mt_eb (mulM_mt h)
end Go.Proofs.Ytkcpemkahkkcmaa
namespace Go.Proofs.Ytkcpemkahkkcmaa
theorem up_zero : ∀ k : Nat, upB k .zero = true ∧ rootN k .zero = .zero
  | 0 => ⟨by first | rfl | decide, rfl⟩
  | k + 1 => by
    obtain ⟨h1, h2⟩ := up_zero k
    have hr : Zw.zero.root = .zero := by decide
    constructor
    · unfold upB; rw [hr, h1]; decide
    · show rootN k Zw.zero.root = _; rw [hr]; exact h2
theorem dadd_zero {x : Dw} (h : x.ok) : dAddB .zero x = true ∧ dAddV .zero x = x := by
  have hz : Dw.zero.ok := by decide
  have he := h.2.1
  have ht : topE .zero x = x.e := by
    unfold topE
    show (if x.e < 0 then (0 : Int) else x.e) = x.e
    rw [if_neg (by omega)]
  have hA : numA .zero x = .zero := by unfold numA; exact (up_zero _).2
  have hB : numB .zero x = x.n := by unfold numB; rw [ht, Int.sub_self]; rfl
  have hs : Zw.zero.add x.n = x.n := by
    obtain ⟨⟨a, b, c, d⟩, e⟩ := x
    simp [Zw.add, Zw.zero]
  have hn := newV_self h
  have hb : dAddB .zero x = true := dAddB_iff.2 ⟨hz, h, by show upB _ Zw.zero = true; exact (up_zero _).1, by rw [ht, Int.sub_self]; show upB 0 x.n = true; first | rfl | (unfold upB; exact decide_eq_true h.1) | simp [upB, h.1], by rw [hA, hB]; exact addB_iff.2 ⟨by decide, h.1, by rw [hs]; exact h.1⟩, by rw [hA, hB, hs, ht]; exact hn.1⟩
  exact ⟨hb, by rw [dAddV_of hb, hA, hB, hs, ht]; exact hn.2⟩
theorem mrow_rest : ∀ (r : List Dw) (s : Dw) (n : Nat), mrow s (r.zip (List.replicate n .zero)) = some s
  | [], s, n => by simp [mrow]
  | x :: r, s, 0 => by simp [mrow]
  | x :: r, s, n + 1 => by
    rw [List.replicate_succ, List.zip_cons_cons, mrow, if_pos (.inr rfl)]
    exact mrow_rest r s n
theorem mrow_basis : ∀ (r : List Dw) (j : Nat), (∀ x ∈ r, x.ok) → j < r.length → mrow .zero (r.zip ((List.replicate r.length .zero).set j oneD)) = some (r.getD j .zero)
  | [], j, _, h => by simp at h
  | x :: r, 0, hr, _ => by
    rw [List.length_cons, List.replicate_succ, List.set_cons_zero, List.zip_cons_cons, mrow]
    have hx := hr x List.mem_cons_self
    by_cases hz : x = .zero
    · rw [if_pos (.inl hz), mrow_rest, hz]; rfl
    · rw [if_neg (show ¬(x = .zero ∨ oneD = .zero) from fun e => e.elim hz (fun e => absurd e (by decide)))]
      obtain ⟨m1, m2⟩ := dmul_one hx
      obtain ⟨a1, a2⟩ := dadd_zero hx
      rw [m2, m1, a1, a2, mrow_rest]; rfl
  | x :: r, j + 1, hr, h => by
    rw [List.length_cons, List.replicate_succ, List.set_cons_succ, List.zip_cons_cons, mrow, if_pos (.inr rfl), mrow_basis r j (fun y hy => hr y (List.mem_cons_of_mem _ hy)) (by simpa using h)]
    rfl
theorem qc_pow {n : Nat} (h : 0 < qc n) : 1 ≤ qc n ∧ qc n ≤ 4 ∧ n = 2 ^ (qc n).toNat := by
  have hl := qc_len h
  have : n = 2 ∨ n = 4 ∨ n = 8 ∨ n = 16 := by
    unfold qc at h
    (repeat' split at h) <;> omega
  rcases this with rfl | rfl | rfl | rfl <;> decide
theorem basis_eq {n j : Nat} (h : 0 < qc n) (hj : j < n) : basisL (qc n) (j : Int) = (List.replicate n .zero).set j oneD := by
  obtain ⟨h1, h4, hp⟩ := qc_pow h
  unfold basisL
  rw [if_pos ⟨h1, h4, by omega, by have : ((2 ^ (qc n).toNat : Nat) : Int) = 2 ^ (qc n).toNat := by simp
                                   omega⟩, ← hp, Int.toNat_natCast]
theorem basis_st {n j : Nat} (h : 0 < qc n) (hj : j < n) : stB (basisL (qc n) (j : Int)) = true ∧ (basisL (qc n) (j : Int)).length = n := by
  rw [basis_eq h hj]
  refine ⟨stB_iff.2 ⟨fun x hx => ?_, by simpa using h⟩, by simp⟩
  rcases List.mem_or_eq_of_mem_set hx with hx | rfl
  · rw [(List.mem_replicate.1 hx).2]; decide
  · exact oneD_ok
theorem app_basis {M : List (List Dw)} (h : mtB M = true) {j : Nat} (hj : j < M.length) : appB M (basisL (qc M.length) (j : Int)) = true ∧ appL M (basisL (qc M.length) (j : Int)) = col M j := by
  have hq := mtB_qc h
  obtain ⟨s1, s2⟩ := basis_st hq hj
  have hrow : ∀ r ∈ M, rowO r (basisL (qc M.length) (j : Int)) = some (r.getD j .zero) := fun r hr => by
    obtain ⟨hl, hs⟩ := (mtB_iff.1 h).2 r hr
    rw [basis_eq hq hj]
    unfold rowO
    rw [← hl]
    exact mrow_basis r j (stB_iff.1 hs).1 (by omega)
  have hb : appB M (basisL (qc M.length) (j : Int)) = true := by
    unfold appB
    rw [h, s1, s2]
    simp only [Bool.true_and, decide_true, List.all_eq_true]
    intro r hr
    unfold rowB
    rw [hrow r hr]; rfl
  refine ⟨hb, ?_⟩
  unfold appL
  rw [if_pos hb]
  unfold col
  refine List.map_congr_left fun r hr => ?_
  unfold rowV
  rw [hrow r hr]; rfl
theorem appL_eb (M : List (List Dw)) (v : List Dw) : Eb (appL M v) := by
  unfold appL
  split
  · intro x hx
    obtain ⟨r, _, rfl⟩ := List.mem_map.1 hx
    obtain ⟨_, h0, h1, _⟩ := rowV_ok r v
    omega
  · intro x hx; cases hx
/-- What the law asks. -/
theorem both_law {A B : List (List Dw)} (h : mulMB A B = true) {j : Nat} (hj : j < (mulM A B).length) :
    appB B (basisL (qc (mulM A B).length) (j : Int)) = true ∧ appB A (appL B (basisL (qc (mulM A B).length) (j : Int))) = true ∧ appB (mulM A B) (basisL (qc (mulM A B).length) (j : Int)) = true ∧
      appL A (appL B (basisL (qc (mulM A B).length) (j : Int))) = appL (mulM A B) (basisL (qc (mulM A B).length) (j : Int)) := by
  obtain ⟨hA, hB, hl, hall⟩ := mul_parts h
  have hP := mulM_mt h
  have hlen : (mulM A B).length = A.length := by rw [mulM_mk h, mkM_len]
  obtain ⟨p1, p2⟩ := app_basis hP hj
  rw [hlen] at hj
  have hq : (mulM A B).length = B.length := by omega
  obtain ⟨b1, b2⟩ := app_basis hB (j := j) (by omega)
  rw [p1, p2, hq, b1, b2, hall j (by omega)]
  refine ⟨rfl, rfl, rfl, ?_⟩
  unfold appL
  rw [if_pos (hall j (by omega)), mulM_mk h]
  conv => rhs; rw [col_at, mkM_len]
  conv => lhs; rw [← list_range A []]
  rw [List.map_map]
  refine List.map_congr_left fun i hi => ?_
  rw [mkM_at (List.mem_range.1 hi) hj]
  rfl
end Go.Proofs.Ytkcpemkahkkcmaa
namespace Go.Proofs.Ytkcpemkahkkcmaa
open Go.RowKit
theorem mulMB_of {A B : List (List Dw)} (hA : mtB A = true) (hB : mtB B = true) (hl : A.length = B.length) : mulMB A B = (List.range B.length).all fun k => appB A (col B k) := by
  unfold mulMB; rw [hA, hB, decide_eq_true hl]; rfl
theorem mulML_len (A B : List (List Dw)) : (mulML A B).length = B.length := by rw [mulML, List.length_map, List.length_range]
theorem mulML_step {A B : List (List Dw)} {j : Nat} (hj : j < B.length) : (mulML A B).take (j + 1) = (mulML A B).take j ++ [appL A (col B j)] := by
  rw [List.take_add_one, mulML, List.getElem?_map, List.getElem?_range hj]
  rfl
attribute [local irreducible] World.cell?
set_option maxRecDepth 100000 in
set_option maxHeartbeats 3200000 in
theorem smulM_yes (P Q R S : Nat) (v u : Value) (A B : List (List Dw)) (w : World) (hv : DSM w P Q v A) (hu : DSM w R S u B) (hA : mtB A = true) (hB : mtB B = true) (hl : A.length = B.length) (hm : amps A ≤ 1048576) (hm' : amps B ≤ 1048576) :
    Calls Try.prog 18 #[v, u] w fun e w' => (∃ r, e = .returned (.tuple #[r, .bool (mulMB A B)]) ∧ DSM w' w.heap.size w'.heap.size r (mulM A B)) ∧ Below w.heap.size w w' := by
  obtain ⟨i0, hi, hz0, hz1, hz2⟩ := info_parts infoDs
  have hlen := mtB_len hB
  have H1 := Lib.hid (svalidMt P Q v A w hv (by omega) hm)
  have H2 := Lib.hid (fun W (h : DSM W R S u B) => svalidMt R S u B W h (by omega) hm')
  rw [hA] at H1
  rw [hB] at H2
  have Hv := Lib.hid hv
  have Hu := Lib.hid hu
  have Hcol := Lib.hid (fun (k : Nat) (hk : k < B.length) W (h : DSM W R S u B) => scolumn R S u B k W h (fun r hr => by rw [((mtB_iff.1 hB).2 r hr).1]; exact hk) (by omega) (by omega))
  have Happ := Lib.hid (fun (k : Nat) (c : Value) (D : Nat) W (h : DSM W P Q v A) (h' : DSl W D c (col B k)) => sapply P Q D v c A (col B k) W h h' (by omega) (by rw [col_len]; omega) hm)
  have hMB := mulMB_of hA hB hl
  obtain ⟨SB, hSB⟩ : ∃ SB, SB = mulMB A B := ⟨_, rfl⟩
  obtain ⟨SL, hSL⟩ : ∃ SL, SL = mulM A B := ⟨_, rfl⟩
  rw [← hSB, ← hSL]
  have HSB := Lib.hid (hSB.trans hMB)
  have HSL := Lib.hid (show SL = if SB then colsM (mulML A B) else [] by rw [hSB]; exact hSL)
  have Hlen := Lib.hid (fun (k : Nat) (h : appB A (col B k) = true) => (appL_len h).trans hl)
  clear hMB hSB hSL hA hB
  obtain ⟨a, cap, rfl, hcap, -⟩ := hv
  obtain ⟨a', cap', rfl, hcap', -⟩ := hu
  rw [hl] at Happ H1 hcap Hv ⊢
  clear hl
  have hd2 : ((B.length : Int) != B.length) = false := by simp
  go_enter Try.func18, Try.ntmps18
  go_wp2_with fail
  refine (H1.out).mono ?_
  rintro e w1 ⟨rfl, hb1⟩
  have Hb1 := Lib.hid hb1
  have Hu1 := Lib.hid (Hu.out.below hb1)
  clear hb1
  go_wp2_with fail
  refine (H2.out _ Hu1.out).mono ?_
  rintro e w2 ⟨rfl, hb2⟩
  have Hb2 := Lib.hid (Hb1.out.trans (hb2.mono Hb1.out.size))
  have hs2 := Hb2.out.size
  clear hb2 Hb1 Hu1 H1 H2
  go_wp2_with fail
  go_loopg [6, 7] B.length (fun n out i wr => ∃ (j : Nat) (vs : List Value), n = B.length - j ∧ j ≤ B.length ∧ i = .int .i64 j ∧ Hid (wr.ownsRow w2.heap.size 31 1 out j vs) ∧ Hid (RwS wr w2.heap.size wr.heap.size vs ((mulML A B).take j)) ∧ Hid (∀ k, k < j → appB A (col B k) = true) ∧ Hid (Below w.heap.size w wr) ∧ w2.heap.size ≤ wr.heap.size)
  case atStart => exact ⟨0, [], rfl, Nat.zero_le _, rfl, ownM_new rfl, RwS.nil, Lib.hid (fun k hk => absurd hk (Nat.not_lt_zero _)), Lib.hid (Hb2.out.alloc hs2 _), by simp⟩
  case round =>
    obtain ⟨j, vs, rfl, hj, rfl, Hown, Hrows, Hall, Hb, hsz⟩ := hrel
    have hs := Hb.out.size
    by_cases hlt : j < B.length
    · have Hc := Lib.hid (Hcol.out j hlt wr (Hu.out.block fun k _ _ hk => Hb.out.block k hk))
      have Hap := Lib.hid (fun c D W => Happ.out j c D W)
      have Hst := Lib.hid (mulML_step (A := A) hlt)
      have Hln := Lib.hid (Hlen.out j)
      have Hat := Lib.hid (fun (h : appB A (col B j) = true) k (hk : k < j + 1) => by
        rcases Nat.lt_succ_iff_lt_or_eq.1 hk with h' | rfl
        · exact Hall.out k h'
        · exact h)
      have Hno := Lib.hid (fun (h : appB A (col B j) = false) => (show ((List.range B.length).all fun k => appB A (col B k)) = false from by
        rw [List.all_eq_false]; exact ⟨j, List.mem_range.2 hlt, by rw [h]; decide⟩))
      generalize appB A (col B j) = t at *
      generalize appL A (col B j) = r at *
      go_wp2_with fail
      refine (Hc.out).mono ?_
      rintro e w3 ⟨c, rfl, hdc, hb3⟩
      have Hv3 := Lib.hid (Hv.out.block fun k _ _ hk => (hb3.block k (by omega)).trans (Hb.out.block k hk))
      have Hc3 := Lib.hid (Hap.out c _ w3 Hv3.out hdc)
      have Hb3 := Lib.hid (Hb.out.trans (hb3.mono hs))
      have Hown3 := Lib.hid (row_below Hown.out hb3)
      have Hrows3 := Lib.hid ((Hrows.out.block fun k _ _ hk => hb3.block k hk).mono (Nat.le_refl _) hb3.size)
      have hs3 := Hb3.out.size
      have hsz3 := Nat.le_trans hsz hb3.size
      clear hb3 hdc Hown Hrows Hb Hc Hv3
      go_wp2_with fail
      refine (Hc3.out).mono ?_
      rintro e w4 ⟨⟨q, rfl, hdq⟩, hb4⟩
      have Hown4 := Lib.hid (row_below Hown3.out hb4)
      have Hrows4 := Lib.hid (Hrows3.out.upto.snoc hdq.upto hsz3 hb4.size fun k _ _ hk => hb4.block k hk)
      have Hb4 := Lib.hid (Hb3.out.trans (hb4.mono hs3))
      have hs4 := Hb4.out.size
      have hsz4 := Nat.le_trans hsz3 hb4.size
      obtain ⟨p, pc, rfl, -, -⟩ := hdq
      clear hb4 Hown3 Hrows3 Hb3 Hc3
      cases t with
      | false =>
        obtain rfl : SB = false := HSB.out.trans (Hno.out rfl)
        obtain rfl : SL = [] := HSL.out
        go_wp2_with fail
        go_returns
        exact ⟨⟨_, rfl, DSM.nil⟩, by have := Hb4.out; go_grown⟩
      | true =>
        rw [← Hst.out] at Hrows4
        go_wp2_with (first
          | (at_builtin; refine wpList_append_own _ rfl _ _ 24 rfl w2.heap.size 31 i0 (.slice none 0 0) 1 24 Try.underlying24 hi hz0 hz1 hz2 rfl (by decide) _ _ _ rfl (Hown4.out.alloc _) ⟨w4.heap.size, 0, none⟩ 1 1 [.slice p r.length pc] rfl rfl (slice_new _ _ _) (by intro u hu; simp at hu; subst hu; rfl) ?d3 ?d4 ?d5 ?_))
        case d3 => unfold maxLen; omega
        case d4 => omega
        case d5 => first | omega | (simp; omega)
        intro v' w5 hown' hgrow _
        have HB5 := Lib.hid ((Hb4.out.alloc hs4 (.cells #[.slice p r.length pc] 31)).grown hgrow (by simp; omega) (fun q hq => by have := Hown4.out.lt q hq; omega))
        have Hrows5 := Lib.hid (((Hrows4.out.block fun k _ _ hk => Below.heap_alloc _ _ _ hk).grown (Hown4.out.alloc _) hgrow).upto)
        have hsz5 : w2.heap.size ≤ w5.heap.size := by have := hgrow.size; simp at this; omega
        have Hown5 := Lib.hid hown'
        clear hown' hgrow
        go_wp2_with fail
        go_roundg (B.length - (j + 1))
        case measure => omega
        case rel => exact ⟨j + 1, _, rfl, by omega, by go_num, Hown5.out, Hrows5, Lib.hid (Hat.out trivial), HB5, hsz5⟩
    · obtain rfl : j = B.length := by omega
      have hall : ((List.range B.length).all fun k => appB A (col B k)) = true := by
        rw [List.all_eq_true]; exact fun k hk => Hall.out k (List.mem_range.1 hk)
      obtain rfl : SB = true := HSB.out.trans hall
      obtain rfl : SL = colsM (mulML A B) := HSL.out
      have hown := Hown.out
      have hrows := Hrows.out
      rw [List.take_of_length_le (by rw [mulML_len]; exact Nat.le_refl _)] at hrows
      rw [show B.length = (mulML A B).length from (mulML_len A B).symm] at hown
      have hd := DSM.of_own hown hrows (Nat.le_refl _)
      have Hcs := Lib.hid (scolumns _ _ _ _ wr hd (fun r hr => by
        obtain ⟨k, hk, rfl⟩ := List.mem_map.1 hr
        rw [mulML_len, Hlen.out k (Hall.out k (List.mem_range.1 hk))]
        exact Nat.le_refl _) (by rw [mulML_len]; omega))
      clear hown hrows hd
      go_wp2_with fail
      refine (Hcs.out).mono ?_
      rintro e w6 ⟨q, rfl, hdq, hb6⟩
      have Hdq := Lib.hid (hdq.mono (D := w.heap.size) (E := w6.heap.size) hs (Nat.le_refl _))
      have Hb6 := Lib.hid (Hb.out.trans (hb6.mono hs))
      clear hb6 hdq
      go_wp2_with fail
      go_returns
      exact ⟨⟨_, rfl, Hdq.out⟩, Hb6.out⟩
set_option maxRecDepth 100000 in
set_option maxHeartbeats 1600000 in
theorem smulM_no0 (P Q R S : Nat) (v u : Value) (M N : List (List Dw)) (w : World) (hv : DSM w P Q v M) (hu : DSM w R S u N) (hn : M.length ≤ 1048576) (hm : amps M ≤ 1048576) (hM : mtB M = false) :
    Calls Try.prog 18 #[v, u] w fun e w' => (∃ r, e = .returned (.tuple #[r, .bool false]) ∧ DSM w' w.heap.size w'.heap.size r []) ∧ Below w.heap.size w w' := by
  have H1 := Lib.hid (svalidMt P Q v M w hv hn hm)
  rw [hM] at H1
  clear hM
  obtain ⟨a, cap, rfl, -, -⟩ := hv
  obtain ⟨a', cap', rfl, -, -⟩ := hu
  go_enter Try.func18, Try.ntmps18
  go_wp2_with fail
  refine (H1.out).mono ?_
  rintro e w1 ⟨rfl, hb1⟩
  have Hb1 := Lib.hid hb1
  have hs1 := hb1.size
  clear hb1
  go_wp2_with fail
  go_returns
  exact ⟨⟨_, rfl, DSM.nil⟩, by have := Hb1.out; go_grown⟩
set_option maxRecDepth 100000 in
set_option maxHeartbeats 1600000 in
theorem smulM_no1 (P Q R S : Nat) (v u : Value) (M N : List (List Dw)) (w : World) (hv : DSM w P Q v M) (hu : DSM w R S u N) (hn : M.length ≤ 1048576) (hn' : N.length ≤ 1048576) (hm : amps M ≤ 1048576) (hm' : amps N ≤ 1048576) (hM : mtB M = true) (hb : mtB N = false) :
    Calls Try.prog 18 #[v, u] w fun e w' => (∃ r, e = .returned (.tuple #[r, .bool false]) ∧ DSM w' w.heap.size w'.heap.size r []) ∧ Below w.heap.size w w' := by
  have H1 := Lib.hid (svalidMt P Q v M w hv hn hm)
  have H2 := Lib.hid (fun W (h : DSM W R S u N) => svalidMt R S u N W h hn' hm')
  have Hu := Lib.hid hu
  rw [hM] at H1
  rw [hb] at H2
  clear hM hb
  obtain ⟨a, cap, rfl, -, -⟩ := hv
  obtain ⟨a', cap', rfl, -, -⟩ := hu
  go_enter Try.func18, Try.ntmps18
  go_wp2_with fail
  refine (H1.out).mono ?_
  rintro e w1 ⟨rfl, hb1⟩
  have Hb1 := Lib.hid hb1
  have Hu1 := Lib.hid (Hu.out.below hb1)
  clear hb1
  go_wp2_with fail
  refine (H2.out _ Hu1.out).mono ?_
  rintro e w2 ⟨rfl, hb2⟩
  have Hb2 := Lib.hid (Hb1.out.trans (hb2.mono Hb1.out.size))
  have hs2 := Hb2.out.size
  clear hb2
  go_wp2_with fail
  go_returns
  exact ⟨⟨_, rfl, DSM.nil⟩, by have := Hb2.out; go_grown⟩
set_option maxRecDepth 100000 in
set_option maxHeartbeats 1600000 in
theorem smulM_no2 (P Q R S : Nat) (v u : Value) (M N : List (List Dw)) (w : World) (hv : DSM w P Q v M) (hu : DSM w R S u N) (hn : M.length ≤ 1048576) (hn' : N.length ≤ 1048576) (hm : amps M ≤ 1048576) (hm' : amps N ≤ 1048576) (hM : mtB M = true) (hb : mtB N = true) (hne : M.length ≠ N.length) :
    Calls Try.prog 18 #[v, u] w fun e w' => (∃ r, e = .returned (.tuple #[r, .bool false]) ∧ DSM w' w.heap.size w'.heap.size r []) ∧ Below w.heap.size w w' := by
  have H1 := Lib.hid (svalidMt P Q v M w hv hn hm)
  have H2 := Lib.hid (fun W (h : DSM W R S u N) => svalidMt R S u N W h hn' hm')
  have Hu := Lib.hid hu
  rw [hM] at H1
  rw [hb] at H2
  clear hM hb
  obtain ⟨a, cap, rfl, -, -⟩ := hv
  obtain ⟨a', cap', rfl, -, -⟩ := hu
  have hd2 : ((M.length : Int) != N.length) = true := by simp; omega
  go_enter Try.func18, Try.ntmps18
  go_wp2_with fail
  refine (H1.out).mono ?_
  rintro e w1 ⟨rfl, hb1⟩
  have Hb1 := Lib.hid hb1
  have Hu1 := Lib.hid (Hu.out.below hb1)
  clear hb1
  go_wp2_with fail
  refine (H2.out _ Hu1.out).mono ?_
  rintro e w2 ⟨rfl, hb2⟩
  have Hb2 := Lib.hid (Hb1.out.trans (hb2.mono Hb1.out.size))
  have hs2 := Hb2.out.size
  clear hb2
  go_wp2_with fail
  go_returns
  exact ⟨⟨_, rfl, DSM.nil⟩, by have := Hb2.out; go_grown⟩
theorem smulM (P Q R S : Nat) (v u : Value) (A B : List (List Dw)) (w : World) (hv : DSM w P Q v A) (hu : DSM w R S u B) (hn : A.length ≤ 1048576) (hn' : B.length ≤ 1048576) (hm : amps A ≤ 1048576) (hm' : amps B ≤ 1048576) :
    Calls Try.prog 18 #[v, u] w fun e w' => (∃ r, e = .returned (.tuple #[r, .bool (mulMB A B)]) ∧ DSM w' w.heap.size w'.heap.size r (mulM A B)) ∧ Below w.heap.size w w' := by
  have hno : mulMB A B = false → mulM A B = [] := fun h => if_neg (by rw [h]; decide)
  cases hA : mtB A with
  | false =>
    have h : mulMB A B = false := by unfold mulMB; rw [hA]; rfl
    rw [hno h, h]; exact smulM_no0 P Q R S v u A B w hv hu hn hm hA
  | true =>
    cases hB : mtB B with
    | false =>
      have h : mulMB A B = false := by unfold mulMB; rw [hA, hB]; rfl
      rw [hno h, h]; exact smulM_no1 P Q R S v u A B w hv hu hn hn' hm hm' hA hB
    | true =>
      by_cases hl : A.length = B.length
      · exact smulM_yes P Q R S v u A B w hv hu hA hB hl hm hm'
      · have h : mulMB A B = false := by unfold mulMB; rw [hA, hB, decide_eq_false hl]; rfl
        rw [hno h, h]; exact smulM_no2 P Q R S v u A B w hv hu hn hn' hm hm' hA hB hl
end Go.Proofs.Ytkcpemkahkkcmaa
namespace Go.Proofs.Ytkcpemkahkkcmaa
open Go.RowKit
theorem amps_rect {n : Nat} : ∀ {M : List (List Dw)}, (∀ r ∈ M, r.length = n) → amps M = M.length * n
  | [], _ => by simp [amps]
  | r :: M, h => by
    have h1 := amps_rect (M := M) fun s hs => h s (List.mem_cons_of_mem _ hs)
    have h2 := h r (List.mem_cons_self ..)
    unfold amps at *
    rw [List.map_cons, List.sum_cons, h1, h2, List.length_cons, Nat.succ_mul]
    omega
theorem small_amps {n k : Nat} {M : List (List Dw)} (h : ∀ r ∈ M, r.length = n) (hl : M.length = k) (hk : k ≤ 16) (hn : n ≤ 16) : amps M ≤ 256 := by
  rw [amps_rect h, hl]
  exact Nat.mul_le_mul hk hn
theorem mtB_amps {M : List (List Dw)} (h : mtB M = true) : amps M ≤ 256 := small_amps (fun r hr => ((mtB_iff.1 h).2 r hr).1) rfl (mtB_len h) (mtB_len h)
theorem adjM_amps (M : List (List Dw)) : (adjM M).length ≤ 16 ∧ amps (adjM M) ≤ 256 := by
  cases h : mtB M with
  | false => rw [adjM_no h]; exact ⟨by decide, by decide⟩
  | true =>
    have hl := adjM_len h
    have h16 := mtB_len h
    refine ⟨by omega, small_amps (n := M.length) (fun r hr => ?_) hl h16 h16⟩
    rw [adjM_yes h] at hr
    obtain ⟨i, _, rfl⟩ := List.mem_map.1 hr
    rw [List.length_map, col_len]
theorem mulM_amps (A B : List (List Dw)) : (mulM A B).length ≤ 16 ∧ amps (mulM A B) ≤ 256 := by
  cases h : mulMB A B with
  | false => rw [show mulM A B = [] from if_neg (by rw [h]; decide)]; exact ⟨by decide, by decide⟩
  | true =>
    have hB : mtB B = true := by
      unfold mulMB at h
      simp only [Bool.and_eq_true] at h
      exact h.1.1.2
    have h16 := mtB_len hB
    have hl : (mulM A B).length = B.length := by rw [show mulM A B = colsM (mulML A B) from if_pos h, colsM_len, mulML_len]
    refine ⟨by omega, small_amps (n := B.length) (fun r hr => ?_) hl h16 h16⟩
    rw [show mulM A B = colsM (mulML A B) from if_pos h] at hr
    obtain ⟨i, _, rfl⟩ := List.mem_map.1 hr
    rw [col_len, mulML_len]
theorem basisL_len (n i : Int) : (basisL n i).length ≤ 16 := by
  unfold basisL
  split
  · rename_i h
    rw [List.length_set, List.length_replicate]
    rcases (show n = 1 ∨ n = 2 ∨ n = 3 ∨ n = 4 by omega) with rfl | rfl | rfl | rfl <;> decide
  · exact Nat.zero_le _
theorem amps_le16 : ∀ {M : List (List Dw)}, (∀ r ∈ M, r.length ≤ 16) → amps M ≤ M.length * 16
  | [], _ => by simp [amps]
  | r :: M, h => by
    have h1 := amps_le16 (M := M) fun s hs => h s (List.mem_cons_of_mem _ hs)
    have h2 := h r (List.mem_cons_self ..)
    unfold amps at *
    rw [List.map_cons, List.sum_cons, List.length_cons, Nat.succ_mul]
    omega
theorem idM_amps (n : Int) : (idM n).length ≤ 16 ∧ amps (idM n) ≤ 256 := by
  by_cases h : 1 ≤ n ∧ n ≤ 4
  · have hl := idM_len h
    have h16 : 2 ^ n.toNat ≤ 16 := by rcases (show n = 1 ∨ n = 2 ∨ n = 3 ∨ n = 4 by omega) with rfl | rfl | rfl | rfl <;> decide
    have h2 := amps_le16 (M := idM n) fun r hr => by
      rw [idM_yes h] at hr
      obtain ⟨i, _, rfl⟩ := List.mem_map.1 hr
      exact basisL_len n _
    exact ⟨by omega, by omega⟩
  · rw [idM_no h]; exact ⟨by decide, by decide⟩
attribute [local irreducible] World.cell?
set_option maxRecDepth 100000 in
set_option maxHeartbeats 3200000 in
theorem suni_yes (B C : Nat) (v : Value) (M : List (List Dw)) (w : World) (hv : DSM w B C v M) (hM : mtB M = true) :
    Calls Try.prog 47 #[v] w fun e w' => e = .returned (.bool (uniB M)) ∧ Below w.heap.size w w' := by
  have hlen := mtB_len hM
  have ham := mtB_amps hM
  have h0 := (mtB_iff.1 hM).1
  have Hv := Lib.hid hv
  have H1 := Lib.hid (svalidMt B C v M w hv (by omega) (by omega))
  have H2 := Lib.hid (fun W (h : DSM W B C v M) => sadj B C v M W h (by omega) (by omega))
  have ha := adjM_amps M
  have H3 := Lib.hid (fun P Q u W (h : DSM W P Q u (adjM M)) (h' : DSM W B C v M) => smulM P Q B C u v (adjM M) M W h h' (by omega) (by omega) (by omega) (by omega))
  have hmu := mulM_amps (adjM M) M
  have hid := idM_amps (qc M.length)
  have H4 := Lib.hid (fun P Q R S u x W (h : DSM W P Q u (mulM (adjM M) M)) (h' : DSM W R S x (idM (qc M.length))) => sequalMt P Q R S u x (mulM (adjM M) M) (idM (qc M.length)) W h h' (by omega) (by omega) (by omega) (by omega))
  have H5 := Lib.hid (fun W => sident (qc M.length) W)
  have hU : uniB M = (mulMB (adjM M) M && decide (mulM (adjM M) M = idM (qc M.length))) := by unfold uniB; rw [hM]; rfl
  rw [hM] at H1
  obtain ⟨T, hT⟩ : ∃ T, T = uniB M := ⟨_, rfl⟩
  rw [← hT]
  have HT := Lib.hid (hT.trans hU)
  obtain ⟨r, hr⟩ : ∃ r, M[0]? = some r := ⟨M[0], List.getElem?_eq_getElem h0⟩
  have hrl := (mtB_row hM hr).1
  have Hq := Lib.hid (fun a cap W => squbits a M.length cap W)
  clear hT hU hM ha hmu hid
  generalize mulM (adjM M) M = X at *
  generalize mulMB (adjM M) M = t at *
  generalize adjM M = Y at *
  generalize idM (qc M.length) = I at *
  generalize qc M.length = n at *
  obtain ⟨a, cap, rfl, hcap, hg⟩ := hv
  obtain ⟨g, rfl, hgB, hgC, hrow⟩ := hg h0
  have Hrow := Lib.hid hrow
  clear hrow
  go_enter Try.func47, Try.ntmps47
  go_wp2_with fail
  refine (H1.out).mono ?_
  rintro e w1 ⟨rfl, hb1⟩
  have Hb1 := Lib.hid hb1
  have Ha := Lib.hid (H2.out w1 (Hv.out.below hb1))
  clear hb1 H1 H2
  go_wp2_with fail
  refine (Ha.out).mono ?_
  rintro e w2 ⟨y, rfl, hdy, hb2⟩
  have Hb2 := Lib.hid (Hb1.out.trans (hb2.mono Hb1.out.size))
  have Hm := Lib.hid (H3.out _ _ y w2 hdy (Hv.out.below Hb2.out))
  clear hb2 hdy Ha Hb1 H3
  go_wp2_with fail
  refine (Hm.out).mono ?_
  rintro e w3 ⟨⟨x, rfl, hdx⟩, hb3⟩
  have Hb3 := Lib.hid (Hb2.out.trans (hb3.mono Hb2.out.size))
  have Hdx := Lib.hid hdx
  have r3 := Hrow.out.block (Hb3.out.block _ Hrow.out.lt) fun k _ _ hk => Hb3.out.block k hk
  obtain ⟨p, pc, c0, -⟩ := r3.cell hr
  rw [hrl] at c0
  have hgl := r3.lt
  clear hb3 hdx Hb2 Hm r3
  cases t with
  | false =>
    obtain rfl : T = false := HT.out
    go_wp2_with fail
    go_returns
    exact ⟨rfl, Hb3.out⟩
  | true =>
    go_wp2_with fail
    refine (Hq.out _ _ _).mono ?_
    rintro e w4 ⟨rfl, rfl⟩
    go_wp2_with fail
    refine (H5.out _).mono ?_
    rintro e w5 ⟨z, rfl, hdz, hb5⟩
    have Hb5 := Lib.hid (Hb3.out.trans (hb5.mono Hb3.out.size))
    have He := Lib.hid (H4.out _ _ _ _ x z w5 (Hdx.out.below hb5) hdz)
    clear hb5 hdz Hb3
    have hTe : T = decide (X = I) := HT.out
    rw [← hTe] at He
    clear hTe
    go_wp2_with fail
    refine (He.out).mono ?_
    rintro e w6 ⟨rfl, hb6⟩
    have Hb6 := Lib.hid (Hb5.out.trans (hb6.mono Hb5.out.size))
    clear hb6
    go_wp2_with fail
    go_returns
    exact ⟨rfl, Hb6.out⟩
set_option maxRecDepth 100000 in
set_option maxHeartbeats 1600000 in
theorem suni (B C : Nat) (v : Value) (M : List (List Dw)) (w : World) (hv : DSM w B C v M) (hn : M.length ≤ 1048576) (hm : amps M ≤ 1048576) :
    Calls Try.prog 47 #[v] w fun e w' => e = .returned (.bool (uniB M)) ∧ Below w.heap.size w w' := by
  cases hM : mtB M with
  | true => exact suni_yes B C v M w hv hM
  | false =>
    have hU : uniB M = false := by unfold uniB; rw [hM]; rfl
    rw [hU]
    have H1 := Lib.hid (svalidMt B C v M w hv hn hm)
    rw [hM] at H1
    clear hM hU
    obtain ⟨a, cap, rfl, -, -⟩ := hv
    go_enter Try.func47, Try.ntmps47
    go_wp2_with fail
    refine (H1.out).mono ?_
    rintro e w1 ⟨rfl, hb1⟩
    have Hb1 := Lib.hid hb1
    clear hb1
    go_wp2_with fail
    go_ret
    exact ⟨rfl, Hb1.out⟩
end Go.Proofs.Ytkcpemkahkkcmaa
namespace Go.Proofs.Ytkcpemkahkkcmaa
open Go.RowKit
/-- A row's slice in its place. -/
def SP1 (w : World) (g j D : Nat) (x : Value) (r : List Dw) (w' : World) : Prop := w'.cell? ⟨g, j, none⟩ = some x ∧ g < w'.heap.size ∧ Hid (DSl w' D x r) ∧ Below w.heap.size w w'
theorem SP1.drew {w w' : World} {g j D : Nat} {x : Value} {r : List Dw} (h : SP1 w g j D x r w') : SP1 w g j D x r w'.drew :=
  let ⟨a, z, d, l⟩ := h; ⟨a, z, Lib.hid (d.out.block fun _ _ _ => rfl), l.drew⟩
theorem SP1.below {w w1 w2 : World} {g j D : Nat} {x : Value} {r : List Dw} (h : SP1 w g j D x r w1) (hb : Below w1.heap.size w1 w2) : SP1 w g j D x r w2 :=
  let ⟨a, z, d, l⟩ := h
  ⟨cell_below a hb z, Nat.lt_of_lt_of_le z hb.size, Lib.hid (d.out.below hb), below_up l hb l.size⟩
theorem SP1.dsl {w w' : World} {g j D : Nat} {x : Value} {r : List Dw} (h : SP1 w g j D x r w') : Hid (DSl w' D x r) := let ⟨_, _, d, _⟩ := h; d
theorem SP1.low {w w' : World} {g j D : Nat} {x : Value} {r : List Dw} (h : SP1 w g j D x r w') : Below w.heap.size w w' := let ⟨_, _, _, l⟩ := h; l
attribute [local irreducible] World.cell?
end Go.Proofs.Ytkcpemkahkkcmaa
namespace Go.Proofs.Ytkcpemkahkkcmaa
theorem cmp_all : allP.all (fun p => allP.all fun q => !decide (p.length = q.length) || (permB (cmpP p q) && decide ((cmpP p q).length = p.length) && (List.range (2 ^ p.length)).all fun i => decide (pix q (pix p (i : Int)) = pix (cmpP p q) (i : Int)))) = true := by decide +kernel
theorem cmp_facts {p q : List Int} (h : permB p = true) (k : permB q = true) (hl : p.length = q.length) : permB (cmpP p q) = true ∧ (cmpP p q).length = p.length ∧ ∀ i : Nat, i < 2 ^ p.length → pix q (pix p (i : Int)) = pix (cmpP p q) (i : Int) := by
  have h1 := List.all_eq_true.1 (List.all_eq_true.1 cmp_all p (perm_mem h)) q (perm_mem k)
  rw [decide_eq_true hl] at h1
  simp only [Bool.not_true, Bool.false_or, Bool.and_eq_true, decide_eq_true_eq, List.all_eq_true, List.mem_range] at h1
  exact ⟨h1.1.1, h1.1.2, h1.2⟩
theorem cmpP_nil {p q : List Int} (h : (cmpP p q).length ≠ 0) : permB p = true ∧ permB q = true ∧ p.length = q.length := by
  unfold cmpP at h
  split at h
  · rename_i h1; simpa [and_assoc] using h1
  · exact absurd rfl h
theorem cmpP_zero {p q : List Int} (h : (cmpP p q).length = 0) : cmpP p q = [] := List.eq_nil_of_length_eq_zero h
theorem perm_nil : permB [] = false := by decide
theorem pix_nil (i : Int) : pix [] i = 0 := by unfold pix pixB; rw [perm_nil]; rfl
theorem invP_len (p : List Int) : (invP p).length ≤ p.length := by
  unfold invP
  split
  · rw [invS_len]; exact Nat.le_refl _
  · exact Nat.zero_le _
theorem cmpP_len (p q : List Int) : (cmpP p q).length ≤ p.length := by
  unfold cmpP
  split
  · rw [List.length_map]; exact Nat.le_refl _
  · exact Nat.zero_le _
theorem pmM_amps (p : List Int) : (pmM p).length ≤ 16 ∧ amps (pmM p) ≤ 256 := by
  unfold pmM
  split
  · rename_i h
    have hl := (permB_iff.1 h).2
    have h16 : 2 ^ p.length ≤ 16 := by rcases (show p.length = 1 ∨ p.length = 2 ∨ p.length = 3 ∨ p.length = 4 by omega) with e | e | e | e <;> rw [e] <;> decide
    have hL : (pmL p).length = 2 ^ p.length := by rw [pmL, List.length_map, List.length_range]
    have hc : (colsM (pmL p)).length = 2 ^ p.length := by rw [colsM_len, hL]
    have hr := amps_rect (n := 2 ^ p.length) (M := colsM (pmL p)) fun r hr => by
      obtain ⟨k, -, rfl⟩ := List.mem_map.1 hr
      rw [col_len, hL]
    refine ⟨by omega, ?_⟩
    rw [hr, hc]
    exact Nat.mul_le_mul h16 h16
  · exact ⟨by decide, by decide⟩
end Go.Proofs.Ytkcpemkahkkcmaa
namespace Go.Proofs.Ytkcpemkahkkcmaa
/-- The list in ascending order. -/
def sortL (l : List Int) : List Int := l.mergeSort fun x y => decide (x ≤ y)
theorem sortL_len (l : List Int) : (sortL l).length = l.length := List.length_mergeSort l
theorem sortL_perm (l : List Int) : (sortL l).Perm l := List.mergeSort_perm l _
theorem sortL_up (l : List Int) : (sortL l).Pairwise (fun x y => x ≤ y) := by
  have h := List.pairwise_mergeSort (le := fun (x y : Int) => decide (x ≤ y)) (fun a b c h k => decide_eq_true (Int.le_trans (of_decide_eq_true h) (of_decide_eq_true k))) (fun a b => by
    rcases Int.le_total a b with h | h
    · rw [decide_eq_true h]; rfl
    · rw [decide_eq_true h, Bool.or_true]) l
  exact h.imp fun h => of_decide_eq_true h
theorem sortL_of_perm {l m : List Int} (h : l.Perm m) : sortL l = sortL m :=
  List.Perm.eq_of_pairwise (fun _ _ _ _ h k => Int.le_antisymm h k) (sortL_up l) (sortL_up m) ((sortL_perm l).trans (h.trans (sortL_perm m).symm))
theorem upI_up (n : Nat) : (upI n).Pairwise (fun x y => x ≤ y) := by
  unfold upI
  rw [List.pairwise_map]
  exact List.pairwise_le_range.imp fun h => Int.ofNat_le.2 h
theorem sortL_upI (n : Nat) : sortL (upI n) = upI n :=
  List.Perm.eq_of_pairwise (fun _ _ _ _ h k => Int.le_antisymm h k) (sortL_up _) (upI_up n) (sortL_perm _)
theorem perm_all : allP.all (fun p => p.isPerm (upI p.length)) = true := by decide +kernel
theorem small_perm : ∀ n, n ≤ 4 → ∀ p ∈ (List.range n).foldr (fun _ (acc : List (List Int)) => acc.flatMap fun t => [0, 1, 2, 3].map fun (x : Int) => x :: t) [[]], p.length ≠ 0 → p.isPerm (upI p.length) = true → permB p = true := by
  intro n hn
  rcases (show n = 0 ∨ n = 1 ∨ n = 2 ∨ n = 3 ∨ n = 4 by omega) with rfl | rfl | rfl | rfl | rfl <;> decide +kernel
/-- IsPermutation by the sorted list. -/
theorem permB_sort {p : List Int} (h1 : 1 ≤ p.length) (h4 : p.length ≤ 4) : permB p = decide (sortL p = upI p.length) := by
  rw [Bool.eq_iff_iff, decide_eq_true_eq]
  constructor
  · intro h
    have h1 := List.isPerm_iff.1 (List.all_eq_true.1 perm_all p (perm_mem h))
    rw [sortL_of_perm h1, sortL_upI]
  · intro h
    have hp : p.Perm (upI p.length) := by
      have := (sortL_perm p).symm
      rwa [h] at this
    refine small_perm p.length h4 p (small_all p.length p rfl fun x hx => ?_) (by omega) (List.isPerm_iff.2 hp)
    have hm := hp.mem_iff.1 hx
    obtain ⟨i, hi, rfl⟩ := List.mem_map.1 hm
    have := List.mem_range.1 hi
    omega
theorem permB_size {p : List Int} (h : ¬ (1 ≤ p.length ∧ p.length ≤ 4)) : permB p = false := by
  cases hp : permB p with
  | false => rfl
  | true => exact absurd (permB_iff.1 hp).2 h
/-- The first j integers, then zeros. -/
def upZ (n j : Nat) : List Int := upI j ++ List.replicate (n - j) 0
theorem upI_snoc (j : Nat) : upI (j + 1) = upI j ++ [(j : Int)] := by
  unfold upI
  rw [List.range_succ, List.map_append]
  rfl
theorem upI_ln (n : Nat) : (upI n).length = n := by simp [upI]
theorem upZ_len {n j : Nat} (h : j ≤ n) : (upZ n j).length = n := by
  rw [upZ, List.length_append, upI_ln, List.length_replicate]; omega
theorem upZ_zero (n : Nat) : upZ n 0 = List.replicate n 0 := rfl
theorem upZ_all (n : Nat) : upZ n n = upI n := by simp [upZ]
theorem upZ_step {n j : Nat} (h : j < n) : (upZ n j).set j (j : Int) = upZ n (j + 1) := by
  rw [upZ, upZ, List.set_append_right _ _ (by rw [upI_ln]; exact Nat.le_refl _), upI_ln, Nat.sub_self, show n - j = (n - (j + 1)) + 1 by omega, List.replicate_succ, List.set_cons_zero, upI_snoc, List.append_assoc]
  rfl
/-- PermutationMatrix, after j steps. -/
def pmZ (p : List Int) : Nat → List (List Dw)
  | 0 => List.replicate (2 ^ p.length) []
  | j + 1 => (pmZ p j).set (pix p (j : Int)).toNat (basisL (p.length : Int) (j : Int))
theorem pmZ_len (p : List Int) : ∀ j, (pmZ p j).length = 2 ^ p.length
  | 0 => by simp [pmZ]
  | j + 1 => by rw [pmZ, List.length_set, pmZ_len p j]
theorem pmZ_list : allP.all (fun p => decide (pmZ p (2 ^ p.length) = pmM p)) = true := by decide +kernel
/-- Every row is still empty that no basis state has gone to. -/
theorem pmZ_free : allP.all (fun p => (List.range (2 ^ p.length)).all fun j => decide ((pmZ p j)[(pix p (j : Int)).toNat]? = some [])) = true := by decide +kernel
theorem pmZ_all {p : List Int} (h : permB p = true) : pmZ p (2 ^ p.length) = pmM p := of_decide_eq_true (List.all_eq_true.1 pmZ_list p (perm_mem h))
theorem pmZ_at {p : List Int} (h : permB p = true) {j : Nat} (hj : j < 2 ^ p.length) : (pmZ p j)[(pix p (j : Int)).toNat]? = some [] :=
  of_decide_eq_true (List.all_eq_true.1 (List.all_eq_true.1 pmZ_free p (perm_mem h)) j (List.mem_range.2 hj))
end Go.Proofs.Ytkcpemkahkkcmaa
namespace Go.Proofs.Ytkcpemkahkkcmaa
def umB (p : List Int) : Bool := uniB (pmM p) && decide (adjM (pmM p) = pmM (invP p))
theorem um_0 : (allP.take 9).all umB = true := by decide +kernel
theorem um_1 : ((allP.drop 9).take 6).all umB = true := by decide +kernel
theorem um_2 : ((allP.drop 15).take 6).all umB = true := by decide +kernel
theorem um_3 : ((allP.drop 21).take 6).all umB = true := by decide +kernel
theorem um_4 : (allP.drop 27).all umB = true := by decide +kernel
theorem um_all : allP.all umB = true := by
  have e : allP = allP.take 9 ++ ((allP.drop 9).take 6 ++ ((allP.drop 15).take 6 ++ ((allP.drop 21).take 6 ++ allP.drop 27))) := by
    rw [show (allP.drop 21).take 6 ++ allP.drop 27 = allP.drop 21 from by rw [show allP.drop 27 = (allP.drop 21).drop 6 by rw [List.drop_drop]]; exact List.take_append_drop ..]
    rw [show (allP.drop 15).take 6 ++ allP.drop 21 = allP.drop 15 from by rw [show allP.drop 21 = (allP.drop 15).drop 6 by rw [List.drop_drop]]; exact List.take_append_drop ..]
    rw [show (allP.drop 9).take 6 ++ allP.drop 15 = allP.drop 9 from by rw [show allP.drop 15 = (allP.drop 9).drop 6 by rw [List.drop_drop]]; exact List.take_append_drop ..]
    exact (List.take_append_drop 9 allP).symm
  rw [e]
  simp only [List.all_append, um_0, um_1, um_2, um_3, um_4, Bool.and_self]
theorem um_facts {p : List Int} (h : permB p = true) : uniB (pmM p) = true ∧ adjM (pmM p) = pmM (invP p) := by
  have h1 := List.all_eq_true.1 um_all p (perm_mem h)
  unfold umB at h1
  rw [Bool.and_eq_true, decide_eq_true_eq] at h1
  exact h1
end Go.Proofs.Ytkcpemkahkkcmaa
