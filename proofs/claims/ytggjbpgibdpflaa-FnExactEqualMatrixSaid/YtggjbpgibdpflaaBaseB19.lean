/- BaseB19: several of our texts in one: MtU AdN AmM. -/
import Derived.Test.YtggjbpgibdpflaaBaseB10
import Derived.Test.YtggjbpgibdpflaaBaseB12
import Derived.Test.YtggjbpgibdpflaaBaseB08
import Derived.Test.YtggjbpgibdpflaaBaseB18
import Derived.Test.YtggjbpgibdpflaaBaseB07
namespace Go.Proofs.Ytggjbpgibdpflaa
open Go.RowKit
theorem amps_rect {n : Nat} : ∀ {M : List (List Dw)}, (∀ r ∈ M, r.length = n) → amps M = M.length * n
  | [], _ => by simp [amps]
  | r :: M, h => by
    have h1 := amps_rect (M := M) fun s hs => h s (List.mem_cons_of_mem _ hs)
    have h2 := h r (List.mem_cons_self ..)
    unfold amps at *
    rw [List.map_cons, List.sum_cons, h1, h2, List.length_cons, Nat.succ_mul]
    omega
theorem small_amps {n k : Nat} {M : List (List Dw)} (h : ∀ r ∈ M, r.length = n) (hl : M.length = k) (hk : k ≤ 16) (hn : n ≤ 16) : amps M ≤ 256 := by
  rw [amps_rect h, hl]
  exact Nat.mul_le_mul hk hn
theorem mtB_amps {M : List (List Dw)} (h : mtB M = true) : amps M ≤ 256 := small_amps (fun r hr => ((mtB_iff.1 h).2 r hr).1) rfl (mtB_len h) (mtB_len h)
theorem adjM_amps (M : List (List Dw)) : (adjM M).length ≤ 16 ∧ amps (adjM M) ≤ 256 := by
  cases h : mtB M with
  | false => rw [adjM_no h]; exact ⟨by decide, by decide⟩
  | true =>
    have hl := adjM_len h
    have h16 := mtB_len h
    refine ⟨by omega, small_amps (n := M.length) (fun r hr => ?_) hl h16 h16⟩
    rw [adjM_yes h] at hr
    obtain ⟨i, _, rfl⟩ := List.mem_map.1 hr
    rw [List.length_map, col_len]
theorem mulM_amps (A B : List (List Dw)) : (mulM A B).length ≤ 16 ∧ amps (mulM A B) ≤ 256 := by
  cases h : mulMB A B with
  | false => rw [show mulM A B = [] from if_neg (by rw [h]; decide)]; exact ⟨by decide, by decide⟩
  | true =>
    have hB : mtB B = true := by
      unfold mulMB at h
      simp only [Bool.and_eq_true] at h
      exact h.1.1.2
    have h16 := mtB_len hB
    have hl : (mulM A B).length = B.length := by rw [show mulM A B = colsM (mulML A B) from if_pos h, colsM_len, mulML_len]
    refine ⟨by omega, small_amps (n := B.length) (fun r hr => ?_) hl h16 h16⟩
    rw [show mulM A B = colsM (mulML A B) from if_pos h] at hr
    obtain ⟨i, _, rfl⟩ := List.mem_map.1 hr
    rw [col_len, mulML_len]
theorem basisL_len (n i : Int) : (basisL n i).length ≤ 16 := by
  unfold basisL
  split
  · rename_i h
    rw [List.length_set, List.length_replicate]
    rcases (show n = 1 ∨ n = 2 ∨ n = 3 ∨ n = 4 by omega) with rfl | rfl | rfl | rfl <;> decide
  · exact Nat.zero_le _
theorem amps_le16 : ∀ {M : List (List Dw)}, (∀ r ∈ M, r.length ≤ 16) → amps M ≤ M.length * 16
  | [], _ => by simp [amps]
  | r :: M, h => by
    have h1 := amps_le16 (M := M) fun s hs => h s (List.mem_cons_of_mem _ hs)
    have h2 := h r (List.mem_cons_self ..)
    unfold amps at *
    rw [List.map_cons, List.sum_cons, List.length_cons, Nat.succ_mul]
    omega
theorem idM_amps (n : Int) : (idM n).length ≤ 16 ∧ amps (idM n) ≤ 256 := by
  by_cases h : 1 ≤ n ∧ n ≤ 4
  · have hl := idM_len h
    have h16 : 2 ^ n.toNat ≤ 16 := by rcases (show n = 1 ∨ n = 2 ∨ n = 3 ∨ n = 4 by omega) with rfl | rfl | rfl | rfl <;> decide
    have h2 := amps_le16 (M := idM n) fun r hr => by
      rw [idM_yes h] at hr
      obtain ⟨i, _, rfl⟩ := List.mem_map.1 hr
      exact basisL_len n _
    exact ⟨by omega, by omega⟩
  · rw [idM_no h]; exact ⟨by decide, by decide⟩
attribute [local irreducible] World.cell?
set_option maxRecDepth 100000 in
set_option maxHeartbeats 3200000 in
theorem suni_yes (B C : Nat) (v : Value) (M : List (List Dw)) (w : World) (hv : DSM w B C v M) (hM : mtB M = true) :
    Calls Try.prog 49 #[v] w fun e w' => e = .returned (.bool (uniB M)) ∧ Below w.heap.size w w' := by
  have hlen := mtB_len hM
  have ham := mtB_amps hM
  have h0 := (mtB_iff.1 hM).1
  have Hv := Lib.hid hv
  have H1 := Lib.hid (svalidMt B C v M w hv (by omega) (by omega))
  have H2 := Lib.hid (fun W (h : DSM W B C v M) => sadj B C v M W h (by omega) (by omega))
  have ha := adjM_amps M
  have H3 := Lib.hid (fun P Q u W (h : DSM W P Q u (adjM M)) (h' : DSM W B C v M) => smulM P Q B C u v (adjM M) M W h h' (by omega) (by omega) (by omega) (by omega))
  have hmu := mulM_amps (adjM M) M
  have hid := idM_amps (qc M.length)
  have H4 := Lib.hid (fun P Q R S u x W (h : DSM W P Q u (mulM (adjM M) M)) (h' : DSM W R S x (idM (qc M.length))) => sequalMt P Q R S u x (mulM (adjM M) M) (idM (qc M.length)) W h h' (by omega) (by omega) (by omega) (by omega))
  have H5 := Lib.hid (fun W => sident (qc M.length) W)
  have hU : uniB M = (mulMB (adjM M) M && decide (mulM (adjM M) M = idM (qc M.length))) := by unfold uniB; rw [hM]; rfl
  rw [hM] at H1
  obtain ⟨T, hT⟩ : ∃ T, T = uniB M := ⟨_, rfl⟩
  rw [← hT]
  have HT := Lib.hid (hT.trans hU)
  obtain ⟨r, hr⟩ : ∃ r, M[0]? = some r := ⟨M[0], List.getElem?_eq_getElem h0⟩
  have hrl := (mtB_row hM hr).1
  have Hq := Lib.hid (fun a cap W => squbits a M.length cap W)
  clear hT hU hM ha hmu hid
  generalize mulM (adjM M) M = X at *
  generalize mulMB (adjM M) M = t at *
  generalize adjM M = Y at *
  generalize idM (qc M.length) = I at *
  generalize qc M.length = n at *
  obtain ⟨a, cap, rfl, hcap, hg⟩ := hv
  obtain ⟨g, rfl, hgB, hgC, hrow⟩ := hg h0
  have Hrow := Lib.hid hrow
  clear hrow
  go_enter Try.func49, Try.ntmps49
  go_wp2_with fail
  refine (H1.out).mono ?_
  rintro e w1 ⟨rfl, hb1⟩
  have Hb1 := Lib.hid hb1
  have Ha := Lib.hid (H2.out w1 (Hv.out.below hb1))
  clear hb1 H1 H2
  go_wp2_with fail
  refine (Ha.out).mono ?_
  rintro e w2 ⟨y, rfl, hdy, hb2⟩
  have Hb2 := Lib.hid (Hb1.out.trans (hb2.mono Hb1.out.size))
  have Hm := Lib.hid (H3.out _ _ y w2 hdy (Hv.out.below Hb2.out))
  clear hb2 hdy Ha Hb1 H3
  go_wp2_with fail
  refine (Hm.out).mono ?_
  rintro e w3 ⟨⟨x, rfl, hdx⟩, hb3⟩
  have Hb3 := Lib.hid (Hb2.out.trans (hb3.mono Hb2.out.size))
  have Hdx := Lib.hid hdx
  have r3 := Hrow.out.block (Hb3.out.block _ Hrow.out.lt) fun k _ _ hk => Hb3.out.block k hk
  obtain ⟨p, pc, c0, -⟩ := r3.cell hr
  rw [hrl] at c0
  have hgl := r3.lt
  clear hb3 hdx Hb2 Hm r3
  cases t with
  | false =>
    obtain rfl : T = false := HT.out
    go_wp2_with fail
    go_returns
    exact ⟨rfl, Hb3.out⟩
  | true =>
    go_wp2_with fail
    refine (Hq.out _ _ _).mono ?_
    rintro e w4 ⟨rfl, rfl⟩
    go_wp2_with fail
    refine (H5.out _).mono ?_
    rintro e w5 ⟨z, rfl, hdz, hb5⟩
    have Hb5 := Lib.hid (Hb3.out.trans (hb5.mono Hb3.out.size))
    have He := Lib.hid (H4.out _ _ _ _ x z w5 (Hdx.out.below hb5) hdz)
    clear hb5 hdz Hb3
    have hTe : T = decide (X = I) := HT.out
    rw [← hTe] at He
    clear hTe
    go_wp2_with fail
    refine (He.out).mono ?_
    rintro e w6 ⟨rfl, hb6⟩
    have Hb6 := Lib.hid (Hb5.out.trans (hb6.mono Hb5.out.size))
    clear hb6
    go_wp2_with fail
    go_returns
    exact ⟨rfl, Hb6.out⟩
set_option maxRecDepth 100000 in
set_option maxHeartbeats 1600000 in
theorem suni (B C : Nat) (v : Value) (M : List (List Dw)) (w : World) (hv : DSM w B C v M) (hn : M.length ≤ 1048576) (hm : amps M ≤ 1048576) :
    Calls Try.prog 49 #[v] w fun e w' => e = .returned (.bool (uniB M)) ∧ Below w.heap.size w w' := by
  cases hM : mtB M with
  | true => exact suni_yes B C v M w hv hM
  | false =>
    have hU : uniB M = false := by unfold uniB; rw [hM]; rfl
    rw [hU]
    have H1 := Lib.hid (svalidMt B C v M w hv hn hm)
    rw [hM] at H1
    clear hM hU
    obtain ⟨a, cap, rfl, -, -⟩ := hv
    go_enter Try.func49, Try.ntmps49
    go_wp2_with fail
    refine (H1.out).mono ?_
    rintro e w1 ⟨rfl, hb1⟩
    have Hb1 := Lib.hid hb1
    clear hb1
    go_wp2_with fail
    go_ret
    exact ⟨rfl, Hb1.out⟩
end Go.Proofs.Ytggjbpgibdpflaa
namespace Go.Proofs.Ytggjbpgibdpflaa
/-- A square of entries. -/
def mkM (n : Nat) (E : Nat → Nat → Dw) : List (List Dw) := (List.range n).map fun i => (List.range n).map fun j => E i j
theorem mkM_len (n : Nat) (E : Nat → Nat → Dw) : (mkM n E).length = n := by rw [mkM, List.length_map, List.length_range]
theorem range_getD {α : Type} {n i : Nat} (h : i < n) (f : Nat → α) (d : α) : ((List.range n).map f).getD i d = f i := by
  rw [List.getD_eq_getElem?_getD, List.getElem?_map, List.getElem?_range h]; rfl
theorem mkM_row {n i : Nat} (h : i < n) (E : Nat → Nat → Dw) : (mkM n E).getD i [] = (List.range n).map fun j => E i j := range_getD h _ _
theorem mkM_at {n i j : Nat} (hi : i < n) (hj : j < n) (E : Nat → Nat → Dw) : ((mkM n E).getD i []).getD j .zero = E i j := by rw [mkM_row hi, range_getD hj]
theorem mkM_congr {n : Nat} {E F : Nat → Nat → Dw} (h : ∀ i j, i < n → j < n → E i j = F i j) : mkM n E = mkM n F :=
  List.map_congr_left fun i hi => List.map_congr_left fun j hj => h i j (List.mem_range.1 hi) (List.mem_range.1 hj)
theorem mkM_mt {n : Nat} {E : Nat → Nat → Dw} (hn : 0 < n) (hq : 0 < qc n) (h : ∀ i j, i < n → j < n → (E i j).ok) : mtB (mkM n E) = true := by
  rw [mtB_iff, mkM_len]
  refine ⟨hn, fun r hr => ?_⟩
  obtain ⟨i, hi, rfl⟩ := List.mem_map.1 hr
  have hl : ((List.range n).map fun j => E i j).length = n := by rw [List.length_map, List.length_range]
  refine ⟨hl, stB_iff.2 ⟨fun x hx => ?_, by rw [hl]; exact hq⟩⟩
  obtain ⟨j, hj, rfl⟩ := List.mem_map.1 hx
  exact h i j (List.mem_range.1 hi) (List.mem_range.1 hj)
theorem mkM_self {M : List (List Dw)} (h : mtB M = true) : mkM M.length (fun i j => (M.getD i []).getD j .zero) = M := by
  conv => rhs; rw [← list_range M []]
  refine List.map_congr_left fun i hi => ?_
  have hi := List.mem_range.1 hi
  have hr := (mtB_row h (List.getElem?_eq_getElem hi)).1
  have hm : M.getD i [] = M[i] := by rw [List.getD_eq_getElem?_getD, List.getElem?_eq_getElem hi]; rfl
  show ((List.range M.length).map fun j => (M.getD i []).getD j .zero) = M.getD i []
  rw [← hm] at hr
  conv => rhs; rw [← list_range (M.getD i []) .zero, hr]
theorem mt_ok {M : List (List Dw)} (h : mtB M = true) {i j : Nat} (hi : i < M.length) (hj : j < M.length) : ((M.getD i []).getD j .zero).ok := by
  have hr := mtB_row h (List.getElem?_eq_getElem hi)
  rw [show M.getD i [] = M[i] by rw [List.getD_eq_getElem?_getD, List.getElem?_eq_getElem hi]; rfl]
  rw [List.getD_eq_getElem?_getD, List.getElem?_eq_getElem (by omega)]
  exact (stB_iff.1 hr.2).1 _ (List.getElem_mem _)
theorem col_at {M : List (List Dw)} (k : Nat) : col M k = (List.range M.length).map fun i => (M.getD i []).getD k .zero := by
  unfold col
  conv => lhs; rw [← list_range M []]
  rw [List.map_map]
  rfl
theorem adjM_mk {M : List (List Dw)} (h : mtB M = true) : adjM M = mkM M.length fun i j => dConjV ((M.getD j []).getD i .zero) := by
  rw [adjM_yes h]
  refine List.map_congr_left fun i _ => ?_
  rw [col_at, List.map_map]
  rfl
theorem adjM_mt {M : List (List Dw)} (h : mtB M = true) : mtB (adjM M) = true := by
  rw [adjM_mk h]
  exact mkM_mt (mtB_iff.1 h).1 (mtB_qc h) fun i j hi hj => conjV_ok (mt_ok h hj hi)
theorem adj_adj {M : List (List Dw)} (h : mtB M = true) : adjM (adjM M) = M := by
  rw [adjM_mk (adjM_mt h), adjM_len h]
  conv => rhs; rw [← mkM_self h]
  refine mkM_congr fun i j hi hj => ?_
  rw [adjM_mk h, mkM_at hj hi, dconj_conj (mt_ok h hi hj)]
theorem row_ok {M : List (List Dw)} (h : mtB M = true) {i : Nat} (hi : i < M.length) : (M.getD i []).length = M.length ∧ ∀ x ∈ M.getD i [], x.ok := by
  have hr := mtB_row h (List.getElem?_eq_getElem hi)
  rw [show M.getD i [] = M[i] by rw [List.getD_eq_getElem?_getD, List.getElem?_eq_getElem hi]; rfl]
  exact ⟨hr.1, (stB_iff.1 hr.2).1⟩
theorem col_ok {M : List (List Dw)} (h : mtB M = true) {k : Nat} (hk : k < M.length) : ∀ x ∈ col M k, x.ok := by
  rw [col_at]
  intro x hx
  obtain ⟨i, hi, rfl⟩ := List.mem_map.1 hx
  exact mt_ok h (List.mem_range.1 hi) hk
theorem app_row {A : List (List Dw)} {v : List Dw} (h : appB A v = true) {i : Nat} (hi : i < A.length) : rowB (A.getD i []) v = true := by
  unfold appB at h
  simp only [Bool.and_eq_true, List.all_eq_true] at h
  refine h.2 _ ?_
  rw [show A.getD i [] = A[i] by rw [List.getD_eq_getElem?_getD, List.getElem?_eq_getElem hi]; rfl]
  exact List.getElem_mem hi
/-- Entry by entry. -/
theorem adj_entry {A B : List (List Dw)} (h : mulMB A B = true) (h' : mulMB (adjM B) (adjM A) = true) {i k : Nat} (hi : i < A.length) (hk : k < A.length) :
    rowV ((adjM B).getD k []) (col (adjM A) i) = dConjV (rowV (A.getD i []) (col B k)) ∧ (rowV (A.getD i []) (col B k)).ok := by
  obtain ⟨hA, hB, hl, hall⟩ := mul_parts h
  obtain ⟨_, _, _, hall'⟩ := mul_parts h'
  have hr : (adjM B).getD k [] = (col B k).map dConjV := by rw [adjM_yes hB, range_getD (by omega)]
  have hc : col (adjM A) i = (A.getD i []).map dConjV := by
    rw [col_at, adjM_len hA]
    conv => rhs; rw [← list_range (A.getD i []) .zero, (row_ok hA hi).1]
    rw [List.map_map]
    refine List.map_congr_left fun j hj => ?_
    rw [adjM_mk hA, mkM_at (List.mem_range.1 hj) hi]
    rfl
  have h1 := app_row (hall k (by omega)) hi
  have h2 := app_row (hall' i (by rw [adjM_len hA]; exact hi)) (i := k) (by rw [adjM_len hB]; omega)
  rw [hr, hc] at h2 ⊢
  exact row_conj (row_ok hA hi).2 (col_ok hB (by omega)) h1 h2
theorem adj_mul {A B : List (List Dw)} (h : mulMB A B = true) (h' : mulMB (adjM B) (adjM A) = true) : adjM (mulM A B) = mulM (adjM B) (adjM A) := by
  obtain ⟨hA, hB, hl, _⟩ := mul_parts h
  have e1 : mulM A B = mkM A.length fun i k => rowV (A.getD i []) (col B k) := mulM_eq h
  have hm : mtB (mulM A B) = true := by
    rw [e1]
    exact mkM_mt (mtB_iff.1 hA).1 (mtB_qc hA) fun i k hi hk => (adj_entry h h' hi hk).2
  have e2 : mulM (adjM B) (adjM A) = mkM A.length fun i k => rowV ((adjM B).getD i []) (col (adjM A) k) := by
    rw [mulM_eq h', adjM_len hB, ← hl]; rfl
  rw [adjM_mk hm, e2, e1, mkM_len]
  refine mkM_congr fun i k hi hk => ?_
  rw [mkM_at hk hi, (adj_entry h h' hk hi).1]
theorem mrow_ok : ∀ (l : List (Dw × Dw)) (s r : Dw), s.ok → mrow s l = some r → r.ok
  | [], s, r, hs, h => by injection h with h; subst h; exact hs
  | p :: l, s, r, hs, h => by
    rw [mrow] at h
    split at h
    · exact mrow_ok l s r hs h
    · split at h
      · rename_i hb
        rw [Bool.and_eq_true] at hb
        exact mrow_ok l _ r (dAddV_ok hb.2) h
      · cases h
theorem rowV_ok (r v : List Dw) : (rowV r v).ok := by
  unfold rowV
  cases h : rowO r v with
  | none => decide
  | some x => exact mrow_ok _ _ _ (by decide) h
theorem mulM_mk {A B : List (List Dw)} (h : mulMB A B = true) : mulM A B = mkM A.length fun i k => rowV (A.getD i []) (col B k) := mulM_eq h
theorem mulM_mt {A B : List (List Dw)} (h : mulMB A B = true) : mtB (mulM A B) = true := by
  obtain ⟨hA, _, _, _⟩ := mul_parts h
  rw [mulM_mk h]
  exact mkM_mt (mtB_iff.1 hA).1 (mtB_qc hA) fun i k _ _ => rowV_ok _ _
theorem mt_eb {M : List (List Dw)} (h : mtB M = true) : EbM M := fun r hr x hx => by
  obtain ⟨_, h0, h1, _⟩ := (stB_iff.1 ((mtB_iff.1 h).2 r hr).2).1 x hx
  omega
theorem adjM_eb (M : List (List Dw)) : EbM (adjM M) := by
  cases h : mtB M with
  | false => rw [adjM_no h]; intro r hr; cases hr
  | true => exact mt_eb (adjM_mt h)
theorem mulM_eb (A B : List (List Dw)) : EbM (mulM A B) := by
  cases h : mulMB A B with
  | false => rw [show mulM A B = [] from if_neg (by rw [h]; decide)]; intro r hr; cases hr
  | true => exact mt_eb (mulM_mt h)
end Go.Proofs.Ytggjbpgibdpflaa
namespace Go.Proofs.Ytggjbpgibdpflaa
theorem up_zero : ∀ k : Nat, upB k .zero = true ∧ rootN k .zero = .zero
  | 0 => ⟨by first | rfl | decide, rfl⟩
  | k + 1 => by
    obtain ⟨h1, h2⟩ := up_zero k
    have hr : Zw.zero.root = .zero := by decide
    constructor
    · unfold upB; rw [hr, h1]; decide
    · show rootN k Zw.zero.root = _; rw [hr]; exact h2
theorem dadd_zero {x : Dw} (h : x.ok) : dAddB .zero x = true ∧ dAddV .zero x = x := by
  have hz : Dw.zero.ok := by decide
  have he := h.2.1
  have ht : topE .zero x = x.e := by
    unfold topE
    show (if x.e < 0 then (0 : Int) else x.e) = x.e
    rw [if_neg (by omega)]
  have hA : numA .zero x = .zero := by unfold numA; exact (up_zero _).2
  have hB : numB .zero x = x.n := by unfold numB; rw [ht, Int.sub_self]; rfl
  have hs : Zw.zero.add x.n = x.n := by
    obtain ⟨⟨a, b, c, d⟩, e⟩ := x
    simp [Zw.add, Zw.zero]
  have hn := newV_self h
  have hb : dAddB .zero x = true := dAddB_iff.2 ⟨hz, h, by show upB _ Zw.zero = true; exact (up_zero _).1, by rw [ht, Int.sub_self]; show upB 0 x.n = true; first | rfl | (unfold upB; exact decide_eq_true h.1) | simp [upB, h.1], by rw [hA, hB]; exact addB_iff.2 ⟨by decide, h.1, by rw [hs]; exact h.1⟩, by rw [hA, hB, hs, ht]; exact hn.1⟩
  exact ⟨hb, by rw [dAddV_of hb, hA, hB, hs, ht]; exact hn.2⟩
theorem mrow_rest : ∀ (r : List Dw) (s : Dw) (n : Nat), mrow s (r.zip (List.replicate n .zero)) = some s
  | [], s, n => by simp [mrow]
  | x :: r, s, 0 => by simp [mrow]
  | x :: r, s, n + 1 => by
    rw [List.replicate_succ, List.zip_cons_cons, mrow, if_pos (.inr rfl)]
    exact mrow_rest r s n
theorem mrow_basis : ∀ (r : List Dw) (j : Nat), (∀ x ∈ r, x.ok) → j < r.length → mrow .zero (r.zip ((List.replicate r.length .zero).set j oneD)) = some (r.getD j .zero)
  | [], j, _, h => by simp at h
  | x :: r, 0, hr, _ => by
    rw [List.length_cons, List.replicate_succ, List.set_cons_zero, List.zip_cons_cons, mrow]
    have hx := hr x List.mem_cons_self
    by_cases hz : x = .zero
    · rw [if_pos (.inl hz), mrow_rest, hz]; rfl
    · rw [if_neg (show ¬(x = .zero ∨ oneD = .zero) from fun e => e.elim hz (fun e => absurd e (by decide)))]
      obtain ⟨m1, m2⟩ := dmul_one hx
      obtain ⟨a1, a2⟩ := dadd_zero hx
      rw [m2, m1, a1, a2, mrow_rest]; rfl
  | x :: r, j + 1, hr, h => by
    rw [List.length_cons, List.replicate_succ, List.set_cons_succ, List.zip_cons_cons, mrow, if_pos (.inr rfl), mrow_basis r j (fun y hy => hr y (List.mem_cons_of_mem _ hy)) (by simpa using h)]
    rfl
theorem qc_pow {n : Nat} (h : 0 < qc n) : 1 ≤ qc n ∧ qc n ≤ 4 ∧ n = 2 ^ (qc n).toNat := by
  have hl := qc_len h
  have : n = 2 ∨ n = 4 ∨ n = 8 ∨ n = 16 := by
    unfold qc at h
    (repeat' split at h) <;> omega
  rcases this with rfl | rfl | rfl | rfl <;> decide
theorem basis_eq {n j : Nat} (h : 0 < qc n) (hj : j < n) : basisL (qc n) (j : Int) = (List.replicate n .zero).set j oneD := by
  obtain ⟨h1, h4, hp⟩ := qc_pow h
  unfold basisL
  rw [if_pos ⟨h1, h4, by omega, by have : ((2 ^ (qc n).toNat : Nat) : Int) = 2 ^ (qc n).toNat := by simp
                                   omega⟩, ← hp, Int.toNat_natCast]
theorem basis_st {n j : Nat} (h : 0 < qc n) (hj : j < n) : stB (basisL (qc n) (j : Int)) = true ∧ (basisL (qc n) (j : Int)).length = n := by
  rw [basis_eq h hj]
  refine ⟨stB_iff.2 ⟨fun x hx => ?_, by simpa using h⟩, by simp⟩
  rcases List.mem_or_eq_of_mem_set hx with hx | rfl
  · rw [(List.mem_replicate.1 hx).2]; decide
  · exact oneD_ok
theorem app_basis {M : List (List Dw)} (h : mtB M = true) {j : Nat} (hj : j < M.length) : appB M (basisL (qc M.length) (j : Int)) = true ∧ appL M (basisL (qc M.length) (j : Int)) = col M j := by
  have hq := mtB_qc h
  obtain ⟨s1, s2⟩ := basis_st hq hj
  have hrow : ∀ r ∈ M, rowO r (basisL (qc M.length) (j : Int)) = some (r.getD j .zero) := fun r hr => by
    obtain ⟨hl, hs⟩ := (mtB_iff.1 h).2 r hr
    rw [basis_eq hq hj]
    unfold rowO
    rw [← hl]
    exact mrow_basis r j (stB_iff.1 hs).1 (by omega)
  have hb : appB M (basisL (qc M.length) (j : Int)) = true := by
    unfold appB
    rw [h, s1, s2]
    simp only [Bool.true_and, decide_true, List.all_eq_true]
    intro r hr
    unfold rowB
    rw [hrow r hr]; rfl
  refine ⟨hb, ?_⟩
  unfold appL
  rw [if_pos hb]
  unfold col
  refine List.map_congr_left fun r hr => ?_
  unfold rowV
  rw [hrow r hr]; rfl
theorem appL_eb (M : List (List Dw)) (v : List Dw) : Eb (appL M v) := by
  unfold appL
  split
  · intro x hx
    obtain ⟨r, _, rfl⟩ := List.mem_map.1 hx
    obtain ⟨_, h0, h1, _⟩ := rowV_ok r v
    omega
  · intro x hx; cases hx
/-- What the law asks. -/
theorem both_law {A B : List (List Dw)} (h : mulMB A B = true) {j : Nat} (hj : j < (mulM A B).length) :
    appB B (basisL (qc (mulM A B).length) (j : Int)) = true ∧ appB A (appL B (basisL (qc (mulM A B).length) (j : Int))) = true ∧ appB (mulM A B) (basisL (qc (mulM A B).length) (j : Int)) = true ∧
      appL A (appL B (basisL (qc (mulM A B).length) (j : Int))) = appL (mulM A B) (basisL (qc (mulM A B).length) (j : Int)) := by
  obtain ⟨hA, hB, hl, hall⟩ := mul_parts h
  have hP := mulM_mt h
  have hlen : (mulM A B).length = A.length := by rw [mulM_mk h, mkM_len]
  obtain ⟨p1, p2⟩ := app_basis hP hj
  rw [hlen] at hj
  have hq : (mulM A B).length = B.length := by omega
  obtain ⟨b1, b2⟩ := app_basis hB (j := j) (by omega)
  rw [p1, p2, hq, b1, b2, hall j (by omega)]
  refine ⟨rfl, rfl, rfl, ?_⟩
  unfold appL
  rw [if_pos (hall j (by omega)), mulM_mk h]
  conv => rhs; rw [col_at, mkM_len]
  conv => lhs; rw [← list_range A []]
  rw [List.map_map]
  refine List.map_congr_left fun i hi => ?_
  rw [mkM_at (List.mem_range.1 hi) hj]
  rfl
end Go.Proofs.Ytggjbpgibdpflaa
