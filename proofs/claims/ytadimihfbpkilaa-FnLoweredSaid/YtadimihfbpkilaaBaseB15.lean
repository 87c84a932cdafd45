/- BaseB15: several of our texts in one: MtQ MtC MtD AdN MtW MtA MtM MtI MtU. -/
import Derived.Test.YtadimihfbpkilaaBaseB08
import Derived.Test.YtadimihfbpkilaaBaseB14
import Derived.Test.YtadimihfbpkilaaBaseB06
import Derived.Test.YtadimihfbpkilaaBaseB12
import Derived.Test.YtadimihfbpkilaaDsC
import Derived.Test.YtadimihfbpkilaaDwN
import Derived.Test.YtadimihfbpkilaaBaseB18
namespace Go.Proofs.Ytadimihfbpkilaa
open Go.RowKit
attribute [local irreducible] World.cell?
set_option maxRecDepth 100000 in
set_option maxHeartbeats 1600000 in
theorem svalidMt (B C : Nat) (v : Value) (M : List (List Dw)) (w : World) (hv : DSM w B C v M) (hn : M.length ≤ 1048576) (hm : amps M ≤ 1048576) :
    Calls Try.prog 55 #[v] w fun e w' => e = .returned (.bool (mtB M)) ∧ Below w.heap.size w w' := by
  obtain ⟨a, cap, rfl, hcap, hr⟩ := hv
  have Hr := Lib.hid hr
  clear hr
  obtain ⟨R, hR⟩ : ∃ R, R = mtB M := ⟨_, rfl⟩
  rw [← hR]
  have HR := Lib.hid hR
  clear hR
  go_enter Try.func55, Try.ntmps55
  go_wp2_with fail
  go_loopg [3] M.length (fun k i wr => ∃ j : Nat, k = M.length - j ∧ j ≤ M.length ∧ i = .int .i64 j ∧ Hid ((M.take j).all (fun r => decide (r.length = M.length) && stB r) = true) ∧ Hid (Below w.heap.size w wr))
  case atStart => exact ⟨0, rfl, Nat.zero_le _, rfl, rfl, Below.refl _ _⟩
  case round =>
    obtain ⟨j, rfl, hj, rfl, Hall, Hb⟩ := hrel
    by_cases hlt : j < M.length
    · obtain ⟨g, rfl, _, _, hrow⟩ := Hr.out (by omega)
      obtain ⟨r, hr⟩ : ∃ r, M[j]? = some r := ⟨M[j], List.getElem?_eq_getElem hlt⟩
      have r1 := hrow.block (Hb.out.block _ hrow.lt) fun k _ _ hk => Hb.out.block k hk
      obtain ⟨p, pc, c0, hd1⟩ := r1.cell hr
      have Hd1 := Lib.hid hd1.dsl
      have Hat := Lib.hid (all_take (p := fun r => decide (r.length = M.length) && stB r) hr Hall.out)
      have Hno := Lib.hid (fun h => all_no (p := fun r => decide (r.length = M.length) && stB r) hr h)
      have He := Lib.hid (fun W (h1 : DSl W B (.slice p r.length pc) r) => svalidSt B (.slice p r.length pc) r W h1 (by have := amps_row hr; omega))
      have hrl := amps_row hr
      clear hd1 r1 hrow hr
      by_cases hlen : r.length = M.length
      · rw [hlen] at c0 He Hd1
        have Hlen := Lib.hid hlen
        clear hlen hrl
        have hd2 : ((M.length : Int) != M.length) = false := by simp
        cases hs : stB r with
        | false =>
          have hS : mtB M = false := by unfold mtB; rw [Hno.out (by rw [hs]; simp)]; simp
          obtain rfl : R = false := HR.out.trans hS
          rw [hs] at He
          go_wp2_with fail
          refine (He.out _ Hd1.out).mono ?_
          rintro e w2 ⟨rfl, hb2⟩
          have Hb2 := Lib.hid (below_up Hb.out hb2 Hb.out.size)
          clear hb2
          go_wp2_with fail
          go_ret
          exact ⟨rfl, Hb2.out⟩
        | true =>
          rw [hs] at He
          go_wp2_with fail
          refine (He.out _ Hd1.out).mono ?_
          rintro e w2 ⟨rfl, hb2⟩
          have Hb2 := Lib.hid (below_up Hb.out hb2 Hb.out.size)
          clear hb2
          go_wp2_with fail
          go_roundg (M.length - (j + 1))
          case measure => omega
          case rel => exact ⟨j + 1, rfl, by omega, by go_num, Lib.hid (by rw [Hat.out, hs, decide_eq_true Hlen.out]; rfl), Hb2⟩
      · have hS : mtB M = false := by unfold mtB; rw [Hno.out (by rw [decide_eq_false hlen]; rfl)]; simp
        obtain rfl : R = false := HR.out.trans hS
        have hd : ((r.length : Int) != (M.length : Int)) = true := by simp; omega
        go_wp2_with fail
        go_ret
        exact ⟨rfl, Hb.out⟩
    · obtain rfl : j = M.length := by omega
      have hall := Hall.out
      rw [List.take_length] at hall
      have hS : mtB M = decide (0 < M.length) := by unfold mtB; rw [hall, Bool.and_true]
      by_cases h0 : 0 < M.length
      · obtain rfl : R = true := HR.out.trans (hS.trans (decide_eq_true h0))
        go_wp2_with fail
        go_returns
        exact ⟨by simp <;> omega, Hb.out⟩
      · obtain rfl : R = false := HR.out.trans (hS.trans (decide_eq_false h0))
        go_wp2_with fail
        go_returns
        exact ⟨by simp <;> omega, Hb.out⟩
theorem eq_takeM {a b : List (List Dw)} {j : Nat} {x y : List Dw} (hx : a[j]? = some x) (hy : b[j]? = some y) (h : a.take j = b.take j) (hxy : x = y) : a.take (j + 1) = b.take (j + 1) := by
  rw [List.take_add_one, List.take_add_one, h, hx, hy, hxy]
end Go.Proofs.Ytadimihfbpkilaa
namespace Go.Proofs.Ytadimihfbpkilaa
open Go.RowKit
theorem col_step {M : List (List Dw)} {j k : Nat} {r : List Dw} {x : Dw} (hr : M[j]? = some r) (hx : r[k]? = some x) : flat ((col M k).take j) ++ fl x = flat ((col M k).take (j + 1)) := by
  have e : (col M k)[j]? = some x := by
    rw [col, List.getElem?_map, hr]
    simp [List.getD, hx]
  rw [List.take_add_one, e, flat_app]
  simp [flat]
attribute [local irreducible] World.cell?
theorem colsM_at {L : List (List Dw)} {j : Nat} (hj : j < L.length) : (colsM L).take (j + 1) = (colsM L).take j ++ [col L j] := by
  rw [List.take_add_one, colsM, List.getElem?_map, List.getElem?_range hj]
  rfl
end Go.Proofs.Ytadimihfbpkilaa
namespace Go.Proofs.Ytadimihfbpkilaa
open Go.RowKit
theorem adjM_yes {M : List (List Dw)} (h : mtB M = true) : adjM M = (List.range M.length).map fun i => (col M i).map dConjV := if_pos h
theorem adjM_no {M : List (List Dw)} (h : mtB M = false) : adjM M = [] := if_neg (by rw [h]; decide)
theorem adjM_len {M : List (List Dw)} (h : mtB M = true) : (adjM M).length = M.length := by rw [adjM_yes h, List.length_map, List.length_range]
theorem adjM_step {M : List (List Dw)} (h : mtB M = true) {j : Nat} (hj : j < M.length) : (adjM M).take (j + 1) = (adjM M).take j ++ [(col M j).map dConjV] := by
  rw [List.take_add_one, adjM_yes h, List.getElem?_map, List.getElem?_range hj]
  rfl
theorem turn_at {l : List Dw} {f : Dw → Dw} {k : Nat} {x : Dw} (hx : l[k]? = some x) : ((l.map f).take k ++ l.drop k)[k]? = some x := by
  have h : k < l.length := by
    rcases Nat.lt_or_ge k l.length with h' | h'
    · exact h'
    · rw [List.getElem?_eq_none h'] at hx; cases hx
  rw [List.getElem?_append_right (by simp; omega), List.getElem?_drop]
  rw [show k + (k - ((l.map f).take k).length) = k by simp; omega]
  exact hx
theorem turn_set {l : List Dw} {f : Dw → Dw} {k : Nat} {x : Dw} (hx : l[k]? = some x) : ((l.map f).take k ++ l.drop k).set k (f x) = (l.map f).take (k + 1) ++ l.drop (k + 1) := by
  have h : k < l.length := by
    rcases Nat.lt_or_ge k l.length with h' | h'
    · exact h'
    · rw [List.getElem?_eq_none h'] at hx; cases hx
  have e : l.drop k = x :: l.drop (k + 1) := by
    rw [List.getElem?_eq_getElem h] at hx
    injection hx with hx
    rw [← hx]
    exact (List.getElem_cons_drop ..).symm
  rw [List.set_append_right _ _ (by simp; omega), show k - ((l.map f).take k).length = 0 by simp; omega, e, List.set_cons_zero, List.take_add_one, List.getElem?_map, hx, List.append_assoc]
  rfl
attribute [local irreducible] World.cell?
end Go.Proofs.Ytadimihfbpkilaa
namespace Go.Proofs.Ytadimihfbpkilaa
/-- A square of entries. -/
def mkM (n : Nat) (E : Nat → Nat → Dw) : List (List Dw) := (List.range n).map fun i => (List.range n).map fun j => E i j
theorem mkM_len (n : Nat) (E : Nat → Nat → Dw) : (mkM n E).length = n := by rw [mkM, List.length_map, List.length_range]
theorem range_getD {α : Type} {n i : Nat} (h : i < n) (f : Nat → α) (d : α) : ((List.range n).map f).getD i d = f i := by
  rw [List.getD_eq_getElem?_getD, List.getElem?_map, List.getElem?_range h]; rfl
theorem mkM_row {n i : Nat} (h : i < n) (E : Nat → Nat → Dw) : (mkM n E).getD i [] = (List.range n).map fun j => E i j := range_getD h _ _
theorem mkM_at {n i j : Nat} (hi : i < n) (hj : j < n) (E : Nat → Nat → Dw) : ((mkM n E).getD i []).getD j .zero = E i j := by rw [mkM_row hi, range_getD hj]
theorem mkM_congr {n : Nat} {E F : Nat → Nat → Dw} (h : ∀ i j, i < n → j < n → E i j = F i j) : mkM n E = mkM n F :=
  List.map_congr_left fun i hi => List.map_congr_left fun j hj => h i j (List.mem_range.1 hi) (List.mem_range.1 hj)
theorem mkM_mt {n : Nat} {E : Nat → Nat → Dw} (hn : 0 < n) (hq : 0 < qc n) (h : ∀ i j, i < n → j < n → (E i j).ok) : mtB (mkM n E) = true := by
  rw [mtB_iff, mkM_len]
  refine ⟨hn, fun r hr => ?_⟩
  obtain ⟨i, hi, rfl⟩ := List.mem_map.1 hr
  have hl : ((List.range n).map fun j => E i j).length = n := by rw [List.length_map, List.length_range]
  refine ⟨hl, stB_iff.2 ⟨fun x hx => ?_, by rw [hl]; exact hq⟩⟩
  obtain ⟨j, hj, rfl⟩ := List.mem_map.1 hx
  exact h i j (List.mem_range.1 hi) (List.mem_range.1 hj)
theorem mkM_self {M : List (List Dw)} (h : mtB M = true) : mkM M.length (fun i j => (M.getD i []).getD j .zero) = M := by
  conv => rhs; rw [← list_range M []]
  refine List.map_congr_left fun i hi => ?_
  have hi := List.mem_range.1 hi
  have hr := (mtB_row h (List.getElem?_eq_getElem hi)).1
  have hm : M.getD i [] = M[i] := by rw [List.getD_eq_getElem?_getD, List.getElem?_eq_getElem hi]; rfl
  show ((List.range M.length).map fun j => (M.getD i []).getD j .zero) = M.getD i []
  rw [← hm] at hr
  conv => rhs; rw [← list_range (M.getD i []) .zero, hr]
theorem mt_ok {M : List (List Dw)} (h : mtB M = true) {i j : Nat} (hi : i < M.length) (hj : j < M.length) : ((M.getD i []).getD j .zero).ok := by
  have hr := mtB_row h (List.getElem?_eq_getElem hi)
  rw [show M.getD i [] = M[i] by rw [List.getD_eq_getElem?_getD, List.getElem?_eq_getElem hi]; rfl]
  rw [List.getD_eq_getElem?_getD, List.getElem?_eq_getElem (by omega)]
  exact (stB_iff.1 hr.2).1 _ (List.getElem_mem _)
theorem col_at {M : List (List Dw)} (k : Nat) : col M k = (List.range M.length).map fun i => (M.getD i []).getD k .zero := by
  unfold col
  conv => lhs; rw [← list_range M []]
  rw [List.map_map]
  rfl
theorem adjM_mk {M : List (List Dw)} (h : mtB M = true) : adjM M = mkM M.length fun i j => dConjV ((M.getD j []).getD i .zero) := by
  rw [adjM_yes h]
  refine List.map_congr_left fun i _ => ?_
  rw [col_at, List.map_map]
  rfl
theorem adjM_mt {M : List (List Dw)} (h : mtB M = true) : mtB (adjM M) = true := by
  rw [adjM_mk h]
  exact mkM_mt (mtB_iff.1 h).1 (mtB_qc h) fun i j hi hj => conjV_ok (mt_ok h hj hi)
theorem adj_adj {M : List (List Dw)} (h : mtB M = true) : adjM (adjM M) = M := by
  rw [adjM_mk (adjM_mt h), adjM_len h]
  conv => rhs; rw [← mkM_self h]
  refine mkM_congr fun i j hi hj => ?_
  rw [adjM_mk h, mkM_at hj hi, dconj_conj (mt_ok h hi hj)]
theorem row_ok {M : List (List Dw)} (h : mtB M = true) {i : Nat} (hi : i < M.length) : (M.getD i []).length = M.length ∧ ∀ x ∈ M.getD i [], x.ok := by
  have hr := mtB_row h (List.getElem?_eq_getElem hi)
  rw [show M.getD i [] = M[i] by rw [List.getD_eq_getElem?_getD, List.getElem?_eq_getElem hi]; rfl]
  exact ⟨hr.1, (stB_iff.1 hr.2).1⟩
theorem col_ok {M : List (List Dw)} (h : mtB M = true) {k : Nat} (hk : k < M.length) : ∀ x ∈ col M k, x.ok := by
  rw [col_at]
  intro x hx
  obtain ⟨i, hi, rfl⟩ := List.mem_map.1 hx
  exact mt_ok h (List.mem_range.1 hi) hk
theorem app_row {A : List (List Dw)} {v : List Dw} (h : appB A v = true) {i : Nat} (hi : i < A.length) : rowB (A.getD i []) v = true := by
  unfold appB at h
  simp only [Bool.and_eq_true, List.all_eq_true] at h
  refine h.2 _ ?_
  rw [show A.getD i [] = A[i] by rw [List.getD_eq_getElem?_getD, List.getElem?_eq_getElem hi]; rfl]
  exact List.getElem_mem hi
/-- Entry by entry. -/
theorem adj_entry {A B : List (List Dw)} (h : mulMB A B = true) (h' : mulMB (adjM B) (adjM A) = true) {i k : Nat} (hi : i < A.length) (hk : k < A.length) :
    rowV ((adjM B).getD k []) (col (adjM A) i) = dConjV (rowV (A.getD i []) (col B k)) ∧ (rowV (A.getD i []) (col B k)).ok := by
  obtain ⟨hA, hB, hl, hall⟩ := mul_parts h
  obtain ⟨_, _, _, hall'⟩ := mul_parts h'
  have hr : (adjM B).getD k [] = (col B k).map dConjV := by rw [adjM_yes hB, range_getD (by omega)]
  have hc : col (adjM A) i = (A.getD i []).map dConjV := by
    rw [col_at, adjM_len hA]
    conv => rhs; rw [← list_range (A.getD i []) .zero, (row_ok hA hi).1]
    rw [List.map_map]
    refine List.map_congr_left fun j hj => ?_
    rw [adjM_mk hA, mkM_at (List.mem_range.1 hj) hi]
    rfl
  have h1 := app_row (hall k (by omega)) hi
  have h2 := app_row (hall' i (by rw [adjM_len hA]; exact hi)) (i := k) (by rw [adjM_len hB]; omega)
  rw [hr, hc] at h2 ⊢
  exact row_conj (row_ok hA hi).2 (col_ok hB (by omega)) h1 h2
theorem adj_mul {A B : List (List Dw)} (h : mulMB A B = true) (h' : mulMB (adjM B) (adjM A) = true) : adjM (mulM A B) = mulM (adjM B) (adjM A) := by
  obtain ⟨hA, hB, hl, _⟩ := mul_parts h
  have e1 : mulM A B = mkM A.length fun i k => rowV (A.getD i []) (col B k) := mulM_eq h
  have hm : mtB (mulM A B) = true := by
    rw [e1]
    exact mkM_mt (mtB_iff.1 hA).1 (mtB_qc hA) fun i k hi hk => (adj_entry h h' hi hk).2
  have e2 : mulM (adjM B) (adjM A) = mkM A.length fun i k => rowV ((adjM B).getD i []) (col (adjM A) k) := by
    rw [mulM_eq h', adjM_len hB, ← hl]; rfl
  rw [adjM_mk hm, e2, e1, mkM_len]
  refine mkM_congr fun i k hi hk => ?_
  rw [mkM_at hk hi, (adj_entry h h' hk hi).1]
theorem mrow_ok : ∀ (l : List (Dw × Dw)) (s r : Dw), s.ok → mrow s l = some r → r.ok
  | [], s, r, hs, h => by injection h with h; subst h; exact hs
  | p :: l, s, r, hs, h => by
    rw [mrow] at h
    split at h
    · exact mrow_ok l s r hs h
    · split at h
      · rename_i hb
        rw [Bool.and_eq_true] at hb
        exact mrow_ok l _ r (dAddV_ok hb.2) h
      · cases h
theorem rowV_ok (r v : List Dw) : (rowV r v).ok := by
  unfold rowV
  cases h : rowO r v with
  | none => decide
  | some x => exact mrow_ok _ _ _ (by decide) h
theorem mulM_mk {A B : List (List Dw)} (h : mulMB A B = true) : mulM A B = mkM A.length fun i k => rowV (A.getD i []) (col B k) := mulM_eq h
theorem mulM_mt {A B : List (List Dw)} (h : mulMB A B = true) : mtB (mulM A B) = true := by
  obtain ⟨hA, _, _, _⟩ := mul_parts h
  rw [mulM_mk h]
  exact mkM_mt (mtB_iff.1 hA).1 (mtB_qc hA) fun i k _ _ => rowV_ok _ _
theorem mt_eb {M : List (List Dw)} (h : mtB M = true) : EbM M := fun r hr x hx => by
  obtain ⟨_, h0, h1, _⟩ := (stB_iff.1 ((mtB_iff.1 h).2 r hr).2).1 x hx
  omega
theorem adjM_eb (M : List (List Dw)) : EbM (adjM M) := by
  cases h : mtB M with
  | false => rw [adjM_no h]; intro r hr; cases hr
  | true => exact mt_eb (adjM_mt h)
theorem mulM_eb (A B : List (List Dw)) : EbM (mulM A B) := by
  cases h : mulMB A B with
  | false => rw [show mulM A B = [] from if_neg (by rw [h]; decide)]; intro r hr; cases hr
  | true => exact mt_eb (mulM_mt h)
end Go.Proofs.Ytadimihfbpkilaa
namespace Go.Proofs.Ytadimihfbpkilaa
open Go.RowKit
theorem mrow_step {s : Dw} {l : List (Dw × Dw)} {j : Nat} {p : Dw × Dw} (hp : l[j]? = some p) :
    mrow s (l.drop j) = if p.1 = .zero ∨ p.2 = .zero then mrow s (l.drop (j + 1)) else if dMulB p.1 p.2 && dAddB s (dMulV p.1 p.2) then mrow (dAddV s (dMulV p.1 p.2)) (l.drop (j + 1)) else none := by
  have hj : j < l.length := by
    rcases Nat.lt_or_ge j l.length with h | h
    · exact h
    · rw [List.getElem?_eq_none h] at hp; cases hp
  have e : l.drop j = p :: l.drop (j + 1) := by
    rw [List.getElem?_eq_getElem hj] at hp
    injection hp with hp
    rw [← hp]
    exact (List.getElem_cons_drop ..).symm
  rw [e, mrow]
attribute [local irreducible] World.cell?
end Go.Proofs.Ytadimihfbpkilaa
namespace Go.Proofs.Ytadimihfbpkilaa
open Go.RowKit
theorem appB_of {M : List (List Dw)} {v : List Dw} (hM : mtB M = true) (hv : stB v = true) (hl : M.length = v.length) : appB M v = M.all fun r => rowB r v := by
  unfold appB; rw [hM, hv, decide_eq_true hl]; rfl
theorem app_step {M : List (List Dw)} {v : List Dw} {j : Nat} {r : List Dw} (hr : M[j]? = some r) : flat ((M.map fun r => rowV r v).take j) ++ fl (rowV r v) = flat ((M.map fun r => rowV r v).take (j + 1)) := by
  rw [List.take_add_one, List.getElem?_map, hr, flat_app]
  simp [flat]
attribute [local irreducible] World.cell?
end Go.Proofs.Ytadimihfbpkilaa
namespace Go.Proofs.Ytadimihfbpkilaa
open Go.RowKit
theorem mulMB_of {A B : List (List Dw)} (hA : mtB A = true) (hB : mtB B = true) (hl : A.length = B.length) : mulMB A B = (List.range B.length).all fun k => appB A (col B k) := by
  unfold mulMB; rw [hA, hB, decide_eq_true hl]; rfl
theorem mulML_len (A B : List (List Dw)) : (mulML A B).length = B.length := by rw [mulML, List.length_map, List.length_range]
theorem mulML_step {A B : List (List Dw)} {j : Nat} (hj : j < B.length) : (mulML A B).take (j + 1) = (mulML A B).take j ++ [appL A (col B j)] := by
  rw [List.take_add_one, mulML, List.getElem?_map, List.getElem?_range hj]
  rfl
theorem range_take (n j : Nat) (h : j ≤ n) : (List.range n).take j = List.range j := by rw [List.take_range, Nat.min_eq_left h]
attribute [local irreducible] World.cell?
end Go.Proofs.Ytadimihfbpkilaa
namespace Go.Proofs.Ytadimihfbpkilaa
open Go.RowKit
theorem idM_yes {n : Int} (h : 1 ≤ n ∧ n ≤ 4) : idM n = (List.range (2 ^ n.toNat)).map fun (i : Nat) => basisL n (i : Int) := if_pos h
theorem idM_no {n : Int} (h : ¬ (1 ≤ n ∧ n ≤ 4)) : idM n = [] := if_neg h
theorem idM_len {n : Int} (h : 1 ≤ n ∧ n ≤ 4) : (idM n).length = 2 ^ n.toNat := by rw [idM_yes h, List.length_map, List.length_range]
theorem idM_step {n : Int} (h : 1 ≤ n ∧ n ≤ 4) {j : Nat} (hj : j < 2 ^ n.toNat) : (idM n).take (j + 1) = (idM n).take j ++ [basisL n (j : Int)] := by
  rw [List.take_add_one, idM_yes h, List.getElem?_map, List.getElem?_range hj]
  rfl
attribute [local irreducible] World.cell?
end Go.Proofs.Ytadimihfbpkilaa
namespace Go.Proofs.Ytadimihfbpkilaa
open Go.RowKit
theorem amps_rect {n : Nat} : ∀ {M : List (List Dw)}, (∀ r ∈ M, r.length = n) → amps M = M.length * n
  | [], _ => by simp [amps]
  | r :: M, h => by
    have h1 := amps_rect (M := M) fun s hs => h s (List.mem_cons_of_mem _ hs)
    have h2 := h r (List.mem_cons_self ..)
    unfold amps at *
    rw [List.map_cons, List.sum_cons, h1, h2, List.length_cons, Nat.succ_mul]
    omega
theorem small_amps {n k : Nat} {M : List (List Dw)} (h : ∀ r ∈ M, r.length = n) (hl : M.length = k) (hk : k ≤ 16) (hn : n ≤ 16) : amps M ≤ 256 := by
  rw [amps_rect h, hl]
  exact Nat.mul_le_mul hk hn
theorem mtB_amps {M : List (List Dw)} (h : mtB M = true) : amps M ≤ 256 := small_amps (fun r hr => ((mtB_iff.1 h).2 r hr).1) rfl (mtB_len h) (mtB_len h)
theorem adjM_amps (M : List (List Dw)) : (adjM M).length ≤ 16 ∧ amps (adjM M) ≤ 256 := by
  cases h : mtB M with
  | false => rw [adjM_no h]; exact ⟨by decide, by decide⟩
  | true =>
    have hl := adjM_len h
    have h16 := mtB_len h
    refine ⟨by omega, small_amps (n := M.length) (fun r hr => ?_) hl h16 h16⟩
    rw [adjM_yes h] at hr
    obtain ⟨i, _, rfl⟩ := List.mem_map.1 hr
    rw [List.length_map, col_len]
theorem mulM_amps (A B : List (List Dw)) : (mulM A B).length ≤ 16 ∧ amps (mulM A B) ≤ 256 := by
  cases h : mulMB A B with
  | false => rw [show mulM A B = [] from if_neg (by rw [h]; decide)]; exact ⟨by decide, by decide⟩
  | true =>
    have hB : mtB B = true := by
      unfold mulMB at h
      simp only [Bool.and_eq_true] at h
      exact h.1.1.2
    have h16 := mtB_len hB
    have hl : (mulM A B).length = B.length := by rw [show mulM A B = colsM (mulML A B) from if_pos h, colsM_len, mulML_len]
    refine ⟨by omega, small_amps (n := B.length) (fun r hr => ?_) hl h16 h16⟩
    rw [show mulM A B = colsM (mulML A B) from if_pos h] at hr
    obtain ⟨i, _, rfl⟩ := List.mem_map.1 hr
    rw [col_len, mulML_len]
theorem basisL_len (n i : Int) : (basisL n i).length ≤ 16 := by
  unfold basisL
  split
  · rename_i h
    rw [List.length_set, List.length_replicate]
    rcases (show n = 1 ∨ n = 2 ∨ n = 3 ∨ n = 4 by omega) with rfl | rfl | rfl | rfl <;> decide
  · exact Nat.zero_le _
theorem amps_le16 : ∀ {M : List (List Dw)}, (∀ r ∈ M, r.length ≤ 16) → amps M ≤ M.length * 16
  | [], _ => by simp [amps]
  | r :: M, h => by
    have h1 := amps_le16 (M := M) fun s hs => h s (List.mem_cons_of_mem _ hs)
    have h2 := h r (List.mem_cons_self ..)
    unfold amps at *
    rw [List.map_cons, List.sum_cons, List.length_cons, Nat.succ_mul]
    omega
theorem idM_amps (n : Int) : (idM n).length ≤ 16 ∧ amps (idM n) ≤ 256 := by
  by_cases h : 1 ≤ n ∧ n ≤ 4
  · have hl := idM_len h
    have h16 : 2 ^ n.toNat ≤ 16 := by rcases (show n = 1 ∨ n = 2 ∨ n = 3 ∨ n = 4 by omega) with rfl | rfl | rfl | rfl <;> decide
    have h2 := amps_le16 (M := idM n) fun r hr => by
      rw [idM_yes h] at hr
      obtain ⟨i, _, rfl⟩ := List.mem_map.1 hr
      exact basisL_len n _
    exact ⟨by omega, by omega⟩
  · rw [idM_no h]; exact ⟨by decide, by decide⟩
attribute [local irreducible] World.cell?
end Go.Proofs.Ytadimihfbpkilaa
