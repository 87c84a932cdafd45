/- Plain: lists of gates as linear maps; matrices that represent them; concatenated, undone and relabelled circuits. -/
import Derived.Test.YtadimihfbpkilaaBaseB19
import Derived.Test.YtadimihfbpkilaaBaseB15
namespace Go.Proofs.Ytadimihfbpkilaa
def oneZ : Zw := ⟨1, 0, 0, 0⟩
theorem mul_oneZ (x : Zw) : x.mul oneZ = x := mul_one' x
theorem oneZ_mul (x : Zw) : oneZ.mul x = x := one_mul' x
/-- The coefficient from i to j of gates one behind the other, over the root's power of their number. -/
def cl (N : Nat) : List Gt → Nat → Nat → Zw
  | [], i, j => if i = j then oneZ else .zero
  | g :: L, i, j => sumZ N fun m => (cf (goesG g i) m).mul (cl N L m j)
theorem cl_app (N : Nat) : ∀ (L M : List Gt) (i j : Nat), i < N → cl N (L ++ M) i j = sumZ N fun m => (cl N L i m).mul (cl N M m j)
  | [], M, i, j, hi => by
    rw [List.nil_append, sumZ_one (fun m => (cl N [] i m).mul (cl N M m j)) hi fun m _ hm => by rw [cl, if_neg fun e => hm e.symm, zero_mul']]
    rw [cl, if_pos rfl, oneZ_mul]
  | g :: L, M, i, j, hi => by
    rw [List.cons_append, cl]
    have h1 : ∀ m, m < N → (cf (goesG g i) m).mul (cl N (L ++ M) m j) = sumZ N fun q => ((cf (goesG g i) m).mul (cl N L m q)).mul (cl N M q j) := fun m hm => by
      rw [cl_app N L M m j hm, mul_sumZ]
      exact sumZ_congr fun q _ => (mul_assoc' _ _ _).symm
    rw [sumZ_congr h1, sumZ_swap]
    refine sumZ_congr fun q _ => ?_
    rw [cl, sumZ_mul]
/-- Gates applied to a state: the values. -/
theorem ags_val : ∀ {L : List Gt} {v w : List Dw}, agsF L v = some w → stB v = true → w.length = v.length ∧ stB w = true ∧ ∀ j, j < v.length → rootN L.length (vl (w.getD j .zero)) = sumZ v.length fun i => (vl (v.getD i .zero)).mul (cl v.length L i j)
  | [], v, w, h, hs => by
    rw [agsF] at h
    cases h
    refine ⟨rfl, hs, fun j hj => ?_⟩
    rw [sumZ_one (fun i => (vl (v.getD i .zero)).mul (cl v.length [] i j)) hj fun i _ hi => by rw [cl, if_neg hi, mul_zero'], cl, if_pos rfl, mul_oneZ]
    rfl
  | g :: L, v, w, h, hs => by
    rw [agsF] at h
    split at h
    · rename_i hb
      obtain ⟨u, hu⟩ := agB_some hb
      rw [agV_of hu] at h
      obtain ⟨lu, -, su⟩ := agO_val hu
      obtain ⟨h1, h2, h3⟩ := ags_val h su
      obtain ⟨a1, a2, a3⟩ := agO_some hu
      obtain ⟨-, -, e⟩ := ap_zero (goesG_e a2) a3
      refine ⟨h1.trans lu, h2, fun j hj => ?_⟩
      rw [List.length_cons, rootN_succ, h3 j (by omega), root_sumZ, lu]
      have s1 : ∀ m, m < v.length → ((vl (u.getD m .zero)).mul (cl v.length L m j)).root = sumZ v.length fun i => (vl (v.getD i .zero)).mul ((cf (goesG g i) m).mul (cl v.length L m j)) := fun m _ => by
        rw [root_mul, e, sumZ_mul]
        exact sumZ_congr fun i _ => mul_assoc' _ _ _
      rw [sumZ_congr s1, sumZ_swap]
      refine sumZ_congr fun i _ => ?_
      rw [cl, mul_sumZ]
    · cases h
/-- The matrix M represents, over the root's power s, the coefficients C (from the column to the row). -/
def Rep (M : List (List Dw)) (N s : Nat) (C : Nat → Nat → Zw) : Prop :=
  M.length = N ∧ (∀ r ∈ M, r.length = N ∧ ∀ x ∈ r, x.ok) ∧ ∀ k, k < N → ∀ i, i < N → rootN s (vl ((M.getD k []).getD i .zero)) = rootN 60 (C i k)
theorem Rep.row {M : List (List Dw)} {N s : Nat} {C : Nat → Nat → Zw} (h : Rep M N s C) {k : Nat} (hk : k < N) : ∃ r, M[k]? = some r ∧ M.getD k [] = r ∧ r.length = N ∧ ∀ x ∈ r, x.ok := by
  have hl : k < M.length := by rw [h.1]; exact hk
  refine ⟨M[k], List.getElem?_eq_getElem hl, ?_, h.2.1 _ (List.getElem_mem hl)⟩
  rw [List.getD_eq_getElem?_getD, List.getElem?_eq_getElem hl]
  rfl
theorem Rep.eq {M P : List (List Dw)} {N s : Nat} {C D : Nat → Nat → Zw} (h : Rep M N s C) (k : Rep P N s D) (e : ∀ i, i < N → ∀ j, j < N → C i j = D i j) : M = P := by
  apply List.ext_getElem (h.1.trans k.1.symm)
  intro a ha hb
  have haN : a < N := by rw [← h.1]; exact ha
  obtain ⟨r, r1, r2, r3, r4⟩ := h.row haN
  obtain ⟨q, q1, q2, q3, q4⟩ := k.row haN
  rw [List.getElem?_eq_getElem ha] at r1
  rw [List.getElem?_eq_getElem hb] at q1
  injection r1 with r1
  injection q1 with q1
  rw [r1, q1]
  refine getD_eq (r3.trans q3.symm) fun i hi => vl_inj (getD_ok r4 i) (getD_ok q4 i) (rootN_inj (k := s) ?_)
  have hiN : i < N := by omega
  have h1 := h.2.2 a haN i hiN
  have k1 := k.2.2 a haN i hiN
  rw [r2] at h1
  rw [q2] at k1
  rw [h1, k1, e i hiN a haN]
/-- A row with a state. -/
theorem row_val {r v : List Dw} {t : Dw} (hl : r.length = v.length) (h : mrow .zero (r.zip v) = some t) : t.ok ∧ rootN 60 (vl t) = sumZ v.length fun i => (vl (r.getD i .zero)).mul (vl (v.getD i .zero)) := by
  obtain ⟨m1, m2⟩ := mrow_val h zero_ok
  refine ⟨m1, ?_⟩
  rw [m2, vl_zero, rootN_z, zero_add', List.length_zip, hl, Nat.min_self]
  refine sumZ_congr fun i hi => ?_
  have hz : (r.zip v).getD i (.zero, .zero) = (r.getD i .zero, v.getD i .zero) := by
    have a1 : i < r.length := by omega
    rw [List.getD_eq_getElem?_getD, List.getD_eq_getElem?_getD, List.getD_eq_getElem?_getD, List.getElem?_eq_getElem a1, List.getElem?_eq_getElem hi, List.getElem?_eq_getElem (by rw [List.length_zip]; omega), List.getElem_zip]
    rfl
  rw [hz]
/-- The columns of a matrix, each found, give it again. -/
theorem col_getD (L : List (List Dw)) (k i : Nat) (hi : i < L.length) : (col L k).getD i .zero = (L.getD i []).getD k .zero := by
  rw [col, List.getD_eq_getElem?_getD, List.getElem?_map, List.getD_eq_getElem?_getD (l := L), List.getElem?_eq_getElem hi]
  rfl
theorem colsM_getD (L : List (List Dw)) (k : Nat) (hk : k < L.length) : (colsM L).getD k [] = col L k := by
  rw [colsM, List.getD_eq_getElem?_getD, List.getElem?_map, List.getElem?_range hk]
  rfl
/-- The matrix of gates. -/
theorem cir_rep {L : List Gt} {n : Nat} (h1 : 1 ≤ n) (h4 : n ≤ 4) (hb : cirB L n = true) : Rep (cirM L n) (2 ^ n) L.length (cl (2 ^ n) L) := by
  have hq : qc (2 ^ n) = n := by rcases (show n = 1 ∨ n = 2 ∨ n = 3 ∨ n = 4 by omega) with rfl | rfl | rfl | rfl <;> decide
  have hq0 : 0 < qc (2 ^ n) := by rw [hq]; omega
  have hM : cirM L n = colsM (cirC L n) := if_pos hb
  have hC := cirC_len L n
  have hcol : ∀ i : Nat, i < 2 ^ n → (cirC L n).getD i [] = agsV L (basisL n i) := fun i hi => by
    rw [cirC, List.getD_eq_getElem?_getD, List.getElem?_map, List.getElem?_range hi]; rfl
  have hag : ∀ i : Nat, i < 2 ^ n → ∃ w, agsF L (basisL n i) = some w ∧ agsV L (basisL n i) = w ∧ stB (basisL n i) = true ∧ (basisL n i).length = 2 ^ n := fun i hi => by
    have h := List.all_eq_true.1 hb i (List.mem_range.2 hi)
    obtain ⟨w, hw⟩ := agsB_some h
    obtain ⟨s1, s2⟩ := basis_st hq0 hi
    rw [hq] at s1 s2
    refine ⟨w, ?_, by unfold agsV; rw [hw]; rfl, s1, s2⟩
    unfold agsO at hw
    rwa [if_pos s1] at hw
  rw [hM]
  refine ⟨by rw [colsM_len, hC], fun r hr => ?_, fun k hk i hi => ?_⟩
  · obtain ⟨k, hk, rfl⟩ := List.mem_map.1 hr
    refine ⟨by rw [col_len, hC], fun x hx => ?_⟩
    obtain ⟨q, hq', rfl⟩ := List.mem_map.1 hx
    obtain ⟨i, hi, rfl⟩ := List.mem_map.1 hq'
    exact getD_ok (agsV_ok' L _) k
  · rw [colsM_getD _ _ (by rw [hC]; exact hk), col_getD _ _ _ (by rw [hC]; exact hi), hcol i hi]
    obtain ⟨w, hw, hv, s1, s2⟩ := hag i hi
    obtain ⟨-, -, e⟩ := ags_val hw s1
    rw [s2] at e
    rw [hv, e k hk]
    have hbe := basis_eq hq0 hi
    rw [hq] at hbe
    rw [sumZ_one (fun a => (vl ((basisL n i).getD a .zero)).mul (cl (2 ^ n) L a k)) hi fun a _ ha => by
      rw [hbe, getD_set _ _ _ _ (by rw [List.length_replicate]; exact hi), if_neg (fun x => ha x.symm), rep_getD, vl_zero, zero_mul']]
    rw [hbe, getD_set _ _ _ _ (by rw [List.length_replicate]; exact hi), if_pos rfl, vl_one, ← rootN_mul, one_mul']
/-- A product of matrices. -/
theorem mul_rep {A B : List (List Dw)} {N s t : Nat} {C D : Nat → Nat → Zw} (ha : Rep A N s C) (hb : Rep B N t D) (h : mulMB A B = true) : Rep (mulM A B) N (s + t) (fun i k => sumZ N fun m => (D i m).mul (C m k)) := by
  have hM : mulM A B = colsM (mulML A B) := if_pos h
  have hBl := hb.1
  have hLl : (mulML A B).length = N := by rw [mulML, List.length_map, List.length_range, hBl]
  have hcol : ∀ j, j < N → (mulML A B).getD j [] = appL A (col B j) ∧ appB A (col B j) = true := fun j hj => by
    unfold mulMB at h
    simp only [Bool.and_eq_true] at h
    refine ⟨?_, List.all_eq_true.1 h.2 j (List.mem_range.2 (by omega))⟩
    rw [mulML, List.getD_eq_getElem?_getD, List.getElem?_map, List.getElem?_range (by omega)]
    rfl
  have hent : ∀ k, k < N → ∀ i, i < N → ∃ t', (appL A (col B i)).getD k .zero = t' ∧ t'.ok ∧ rootN 60 (vl t') = sumZ N fun m => (vl ((A.getD k []).getD m .zero)).mul (vl ((B.getD m []).getD i .zero)) := fun k hk i hi => by
    obtain ⟨r, r1, r2, r3, r4⟩ := ha.row hk
    have hap := (hcol i hi).2
    have hrow : rowB r (col B i) = true := by
      have h' := hap
      unfold appB at h'
      rw [Bool.and_eq_true, List.all_eq_true] at h'
      exact h'.2 r (List.mem_of_getElem? r1)
    obtain ⟨t', ht⟩ := Option.isSome_iff_exists.1 (show (rowO r (col B i)).isSome = true from hrow)
    have hcl : (col B i).length = N := by rw [col_len, hBl]
    obtain ⟨m1, m2⟩ := row_val (r3.trans hcl.symm) ht
    refine ⟨t', ?_, m1, ?_⟩
    · rw [appL, if_pos hap, List.getD_eq_getElem?_getD, List.getElem?_map, r1]
      show rowV r (col B i) = t'
      unfold rowV
      rw [ht]; rfl
    · rw [m2, hcl, r2]
      exact sumZ_congr fun m hm => by rw [col_getD _ _ _ (by omega)]
  rw [hM]
  refine ⟨by rw [colsM_len, hLl], fun r hr => ?_, fun k hk i hi => ?_⟩
  · obtain ⟨k, hk, rfl⟩ := List.mem_map.1 hr
    have hk := List.mem_range.1 hk
    refine ⟨by rw [col_len, hLl], fun x hx => ?_⟩
    obtain ⟨i, hi⟩ := List.getElem?_of_mem hx
    have hiN : i < N := by
      rcases Nat.lt_or_ge i (col (mulML A B) k).length with h' | h'
      · rwa [col_len, hLl] at h'
      · rw [List.getElem?_eq_none h'] at hi; cases hi
    have hx' : x = (col (mulML A B) k).getD i .zero := by rw [List.getD_eq_getElem?_getD, hi]; rfl
    obtain ⟨t', e1, e2, -⟩ := hent k (by omega) i hiN
    rw [hx', col_getD _ _ _ (by omega), (hcol i hiN).1, e1]
    exact e2
  · rw [colsM_getD _ _ (by omega), col_getD _ _ _ (by omega), (hcol i hi).1]
    obtain ⟨t', e1, -, e3⟩ := hent k hk i hi
    rw [e1]
    apply rootN_inj (k := 60)
    rw [rootN_comm, e3, rootN_sumZ, rootN_sumZ, rootN_sumZ]
    refine sumZ_congr fun m hm => ?_
    rw [rootN_mul2, ha.2.2 k hk m hm, hb.2.2 m hm i hi, ← rootN_mul2, mul_comm' (D i m), ← rootN_add]
/-- The matrix of gates one behind the other is the product of the matrices. -/
theorem cir_joined {L M : List Gt} {n : Nat} (h1 : 1 ≤ n) (h4 : n ≤ 4) (hL : cirB L n = true) (hM : cirB M n = true) (hLM : cirB (L ++ M) n = true) (h : mulMB (cirM M n) (cirM L n) = true) : mulM (cirM M n) (cirM L n) = cirM (L ++ M) n := by
  have r1 := mul_rep (cir_rep h1 h4 hM) (cir_rep h1 h4 hL) h
  have r2 := cir_rep h1 h4 hLM
  rw [List.length_append, Nat.add_comm] at r2
  exact r1.eq r2 fun i hi j _ => (cl_app (2 ^ n) L M i j hi).symm
/-- Gates undone. -/
def invL (L : List Gt) : List Gt := (L.map invG).reverse
theorem ags_back : ∀ {L : List Gt} {v w b : List Dw}, agsF L v = some w → agsF (invL L) w = some b → b = v
  | [], v, w, b, h, k => by
    rw [agsF] at h
    cases h
    rw [show invL [] = [] from rfl, agsF] at k
    cases k
    rfl
  | g :: L, v, w, b, h, k => by
    rw [agsF] at h
    split at h
    · rename_i hb
      obtain ⟨u, hu⟩ := agB_some hb
      rw [agV_of hu] at h
      rw [show invL (g :: L) = invL L ++ [invG g] by simp [invL], agsF_app] at k
      cases hx : agsF (invL L) w with
      | none => rw [hx] at k; cases k
      | some x =>
        rw [hx] at k
        have hxu := ags_back h hx
        subst hxu
        rw [Option.bind_some, agsF] at k
        split at k
        · rename_i hb2
          obtain ⟨y, hy⟩ := agB_some hb2
          rw [agV_of hy, agsF] at k
          cases k
          exact ag_back hu hy
        · cases k
    · cases h
theorem colsM_id : ∀ n, 1 ≤ n → n ≤ 4 → colsM (idM (n : Nat)) = idM (n : Nat) := by
  intro n h1 h4
  rcases (show n = 1 ∨ n = 2 ∨ n = 3 ∨ n = 4 by omega) with rfl | rfl | rfl | rfl <;> decide +kernel
/-- A circuit followed by its inverse is the identity. -/
theorem cir_undone {L : List Gt} {n : Nat} (h1 : 1 ≤ n) (h4 : n ≤ 4) (h : cirB (L ++ invL L) n = true) : cirM (L ++ invL L) n = idM n := by
  have hM : cirM (L ++ invL L) n = colsM (cirC (L ++ invL L) n) := if_pos h
  have hC : cirC (L ++ invL L) n = idM (n : Nat) := by
    rw [idM, if_pos ⟨by omega, by omega⟩, Int.toNat_natCast, cirC]
    refine List.map_congr_left fun i hi => ?_
    have hb := List.all_eq_true.1 h i hi
    obtain ⟨w, hw⟩ := agsB_some hb
    have e : agsV (L ++ invL L) (basisL n i) = w := by unfold agsV; rw [hw]; rfl
    rw [e]
    unfold agsO at hw
    split at hw
    · rw [agsF_app] at hw
      cases hu : agsF L (basisL n i) with
      | none => rw [hu] at hw; cases hw
      | some u =>
        rw [hu] at hw
        exact ags_back hu hw
    · cases hw
  rw [hM, hC]
  exact colsM_id n h1 h4
end Go.Proofs.Ytadimihfbpkilaa
