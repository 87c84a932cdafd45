/- BaseB15: several of our texts in one: GtA MtQ MtC MtD AdN AmM MtKp MtW MtA MtM MtI MtU MtKb. -/
import Derived.Test.YtkcpemkahkkcmaaGreatBaseB08
import Derived.Test.YtkcpemkahkkcmaaGreatBaseB18
import Derived.Test.YtkcpemkahkkcmaaGreatBaseB14
import Derived.Test.YtkcpemkahkkcmaaGreatBaseB13
import Derived.Test.YtkcpemkahkkcmaaGreatDwN
import Derived.Test.YtkcpemkahkkcmaaGreatDsKc
import Derived.Test.YtkcpemkahkkcmaaGreatDsKa
namespace Go.Proofs.YtkcpemkahkkcmaaGreat
open Go.RowKit
/-- A gate: its kind and three qubits. -/
structure Gt where
  k : Int
  a : Int
  b : Int
  c : Int
/-- The number of qubits of a kind. -/
def ar (k : Int) : Nat := if 1 ≤ k ∧ k ≤ 8 then 1 else if 9 ≤ k ∧ k ≤ 11 then 2 else if k = 12 then 3 else 0
theorem ar_le (k : Int) : ar k ≤ 3 := by unfold ar; (repeat' split) <;> omega
/-- The qubits of a gate. -/
def gqs (g : Gt) : List Int := [g.a, g.b, g.c].take (ar g.k)
/-- Gates, four cells each. -/
def gtE : Enc Gt := ⟨fun g => [.int .i64 g.k, .int .i64 g.a, .int .i64 g.b, .int .i64 g.c], 4, 25, fun _ => rfl, fun x u h => by simp at h; rcases h with rfl | rfl | rfl | rfl <;> rfl⟩
/-- Whether a gate's qubit j is as it must be: 0 where the gate has none, else from 0 to hi and none of the earlier ones. -/
def gtOk (g : Gt) (hi : Int) (j : Nat) : Bool :=
  if ar g.k ≤ j then decide ([g.a, g.b, g.c].getD j 0 = 0) else decide (0 ≤ [g.a, g.b, g.c].getD j 0 ∧ [g.a, g.b, g.c].getD j 0 ≤ hi) && !decide ([g.a, g.b, g.c].getD j 0 ∈ (gqs g).take j)
/-- IsValidGate. -/
def gtB (g : Gt) (n : Int) : Bool := (List.range 3).all (gtOk g (IntKind.i64.wrap (n - 1))) && (decide (0 < ar g.k) && decide (1 ≤ n ∧ n ≤ 4))
attribute [local irreducible] World.cell?
set_option maxRecDepth 100000 in
set_option maxHeartbeats 800000 in
theorem sar (k : Int) (w : World) :
    Calls Tryz.prog 74 #[.int .i64 k] w fun e w' => e = .returned (.int .i64 (ar k)) ∧ w = w' := by
  by_cases h1 : 1 ≤ k ∧ k ≤ 8
  · rw [show ar k = 1 from if_pos h1]
    have H1 := Lib.hid (fun w => lin_any k 1 8 true w (decide_eq_true h1))
    clear h1
    go_enter Tryz.func74, Tryz.ntmps74
    go_wp2_with fail
    refine (H1.out _).mono ?_
    rintro e w1 ⟨rfl, rfl⟩
    go_wp2_with fail
    go_ret
    exact ⟨rfl, rfl⟩
  · by_cases h2 : 9 ≤ k ∧ k ≤ 11
    · rw [show ar k = 2 by unfold ar; rw [if_neg h1, if_pos h2]]
      have H1 := Lib.hid (fun w => lin_any k 1 8 false w (decide_eq_false h1))
      have H2 := Lib.hid (fun w => lin_any k 9 11 true w (decide_eq_true h2))
      clear h1 h2
      go_enter Tryz.func74, Tryz.ntmps74
      go_wp2_with fail
      refine (H1.out _).mono ?_
      rintro e w1 ⟨rfl, rfl⟩
      go_wp2_with fail
      refine (H2.out _).mono ?_
      rintro e w2 ⟨rfl, rfl⟩
      go_wp2_with fail
      go_ret
      exact ⟨rfl, rfl⟩
    · have H1 := Lib.hid (fun w => lin_any k 1 8 false w (decide_eq_false h1))
      have H2 := Lib.hid (fun w => lin_any k 9 11 false w (decide_eq_false h2))
      by_cases h3 : k = 12
      · subst h3
        rw [show ar 12 = 3 from rfl]
        clear h1 h2
        go_enter Tryz.func74, Tryz.ntmps74
        go_wp2_with fail
        refine (H1.out _).mono ?_
        rintro e w1 ⟨rfl, rfl⟩
        go_wp2_with fail
        refine (H2.out _).mono ?_
        rintro e w2 ⟨rfl, rfl⟩
        go_wp2_with fail
        go_ret
        exact ⟨rfl, rfl⟩
      · rw [show ar k = 0 by unfold ar; rw [if_neg h1, if_neg h2, if_neg h3]]
        have h4 : (k == 12) = false := by simpa using h3
        clear h1 h2 h3
        go_enter Tryz.func74, Tryz.ntmps74
        go_wp2_with fail
        refine (H1.out _).mono ?_
        rintro e w1 ⟨rfl, rfl⟩
        go_wp2_with fail
        refine (H2.out _).mono ?_
        rintro e w2 ⟨rfl, rfl⟩
        go_wp2_with fail
        go_ret
        exact ⟨rfl, rfl⟩
theorem gqs_len (g : Gt) : (gqs g).length = ar g.k := by unfold gqs; rw [List.length_take]; have := ar_le g.k; simp; omega
set_option maxRecDepth 100000 in
set_option maxHeartbeats 1600000 in
theorem sgqs (g : Gt) (w : World) :
    Calls Tryz.prog 55 #[(.agg #[.int .i64 g.k, .int .i64 g.a, .int .i64 g.b, .int .i64 g.c])] w fun e w' => ∃ v, e = .returned v ∧ intE.Sl w' w.heap.size v (gqs g) ∧ Below w.heap.size w w' := by
  obtain ⟨i0, hi, hz0, hz1, hz2⟩ := info_parts infoInt
  have Ha := Lib.hid (fun w => sar g.k w)
  have hL := gqs_len g
  have h3 := ar_le g.k
  have hrow : intE.Row (((w.alloc (.cells #[.int .i64 g.k, .int .i64 g.a, .int .i64 g.b, .int .i64 g.c] 25)).alloc (.cells #[.int .i64 g.a, .int .i64 g.b, .int .i64 g.c] 3)).alloc (.cells #[] 3)) (w.heap.size + 1) (gqs g) := by
    have h1 : ((w.alloc (.cells #[.int .i64 g.k, .int .i64 g.a, .int .i64 g.b, .int .i64 g.c] 25)).alloc (.cells #[.int .i64 g.a, .int .i64 g.b, .int .i64 g.c] 3)).heap[w.heap.size + 1]? = some (.cells #[.int .i64 g.a, .int .i64 g.b, .int .i64 g.c] 3 (0, 0)) := by
      simpa using heap_alloc_new (w.alloc (.cells #[.int .i64 g.k, .int .i64 g.a, .int .i64 g.b, .int .i64 g.c] 25)) (.cells #[.int .i64 g.a, .int .i64 g.b, .int .i64 g.c] 3)
    exact Enc.Row.take (E := intE) (l := [g.a, g.b, g.c]) ⟨#[.int .i64 g.a, .int .i64 g.b, .int .i64 g.c], alloc_blk _ h1, rfl⟩ (ar g.k)
  have Hnew := Lib.hid (intE_src hrow)
  have Hp := Lib.hid (intE.flat_plain (gqs g))
  have Hl := Lib.hid (show (intE.flat (gqs g)).length = ar g.k * 1 by rw [intE.flat_len, hL]; rfl)
  have Hown := Lib.hid (Enc.own_nil (E := intE) (w := (w.alloc (.cells #[.int .i64 g.k, .int .i64 g.a, .int .i64 g.b, .int .i64 g.c] 25)).alloc (.cells #[.int .i64 g.a, .int .i64 g.b, .int .i64 g.c] 3)) (n := w.heap.size + 2) (by simp))
  have HB := Lib.hid (show Below w.heap.size w (((w.alloc (.cells #[.int .i64 g.k, .int .i64 g.a, .int .i64 g.b, .int .i64 g.c] 25)).alloc (.cells #[.int .i64 g.a, .int .i64 g.b, .int .i64 g.c] 3)).alloc (.cells #[] 3)) by go_grown)
  clear hrow
  generalize ar g.k = t at *
  have HL := Lib.hid hL
  clear hL
  go_enter Tryz.func55, Tryz.ntmps55
  go_wp2_with fail
  refine (Ha.out _).mono ?_
  rintro e w1 ⟨rfl, rfl⟩
  go_wp2_with (first
    | (at_builtin; (refine wpList_append_own _ rfl _ _ 80 rfl (w.heap.size + 2) 3 i0 (.int .i64 0) 1 8 Tryz.underlying80 hi hz0 hz1 hz2 rfl (by decide) _ _ _ rfl Hown.out ⟨w.heap.size + 1, 0, none⟩ t 3 (intE.flat (gqs g)) rfl Hl.out Hnew.out Hp.out ?d3 ?d4 ?d5 ?_)))
  case d3 => unfold maxLen; omega
  case d4 => omega
  case d5 => simp
  intro v' w4 hown' hgrow _
  have hown2 : w4.ownsRow (w.heap.size + 2) 3 1 v' t (intE.flat (gqs g)) := by
    have h : w4.ownsRow (w.heap.size + 2) 3 1 v' t ([] ++ intE.flat (gqs g)) := hown'
    rwa [List.nil_append] at h
  have HB4 := Lib.hid (HB.out.grown hgrow (by simp; omega) (fun q hq => by have := Hown.out.lt q hq; omega))
  have Hs := Lib.hid ((Enc.Sl.of_own (E := intE) (l := gqs g) (by rw [HL.out]; exact hown2)).mono (show w.heap.size ≤ w.heap.size + 2 by omega))
  clear hown' hown2 hgrow
  go_wp2_with fail
  go_ret
  exact ⟨_, rfl, Hs.out, HB4.out⟩
end Go.Proofs.YtkcpemkahkkcmaaGreat
namespace Go.Proofs.YtkcpemkahkkcmaaGreat
open Go.RowKit
attribute [local irreducible] World.cell?
end Go.Proofs.YtkcpemkahkkcmaaGreat
namespace Go.Proofs.YtkcpemkahkkcmaaGreat
open Go.RowKit
theorem col_step {M : List (List Dw)} {j k : Nat} {r : List Dw} {x : Dw} (hr : M[j]? = some r) (hx : r[k]? = some x) : flat ((col M k).take j) ++ fl x = flat ((col M k).take (j + 1)) := by
  have e : (col M k)[j]? = some x := by
    rw [col, List.getElem?_map, hr]
    simp [List.getD, hx]
  rw [List.take_add_one, e, flat_app]
  simp [flat]
attribute [local irreducible] World.cell?
end Go.Proofs.YtkcpemkahkkcmaaGreat
namespace Go.Proofs.YtkcpemkahkkcmaaGreat
open Go.RowKit
attribute [local irreducible] World.cell?
end Go.Proofs.YtkcpemkahkkcmaaGreat
namespace Go.Proofs.YtkcpemkahkkcmaaGreat
end Go.Proofs.YtkcpemkahkkcmaaGreat
namespace Go.Proofs.YtkcpemkahkkcmaaGreat
theorem up_zero : ∀ k : Nat, upB k .zero = true ∧ rootN k .zero = .zero
  | 0 => ⟨by first | rfl | decide, rfl⟩
  | k + 1 => by
    obtain ⟨h1, h2⟩ := up_zero k
    have hr : Zw.zero.root = .zero := by decide
    constructor
    · unfold upB; rw [hr, h1]; decide
    · show rootN k Zw.zero.root = _; rw [hr]; exact h2
theorem dadd_zero {x : Dw} (h : x.ok) : dAddB .zero x = true ∧ dAddV .zero x = x := by
  have hz : Dw.zero.ok := by decide
  have he := h.2.1
  have ht : topE .zero x = x.e := by
    unfold topE
    show (if x.e < 0 then (0 : Int) else x.e) = x.e
    rw [if_neg (by omega)]
  have hA : numA .zero x = .zero := by unfold numA; exact (up_zero _).2
  have hB : numB .zero x = x.n := by unfold numB; rw [ht, Int.sub_self]; rfl
  have hs : Zw.zero.add x.n = x.n := by
    obtain ⟨⟨a, b, c, d⟩, e⟩ := x
    simp [Zw.add, Zw.zero]
  have hn := newV_self h
  have hb : dAddB .zero x = true := dAddB_iff.2 ⟨hz, h, by show upB _ Zw.zero = true; exact (up_zero _).1, by rw [ht, Int.sub_self]; show upB 0 x.n = true; first | rfl | (unfold upB; exact decide_eq_true h.1) | simp [upB, h.1], by rw [hA, hB]; exact addB_iff.2 ⟨by decide, h.1, by rw [hs]; exact h.1⟩, by rw [hA, hB, hs, ht]; exact hn.1⟩
  exact ⟨hb, by rw [dAddV_of hb, hA, hB, hs, ht]; exact hn.2⟩
theorem qc_pow {n : Nat} (h : 0 < qc n) : 1 ≤ qc n ∧ qc n ≤ 4 ∧ n = 2 ^ (qc n).toNat := by
  have hl := qc_len h
  have : n = 2 ∨ n = 4 ∨ n = 8 ∨ n = 16 := by
    unfold qc at h
    (repeat' split at h) <;> omega
  rcases this with rfl | rfl | rfl | rfl <;> decide
theorem basis_eq {n j : Nat} (h : 0 < qc n) (hj : j < n) : basisL (qc n) (j : Int) = (List.replicate n .zero).set j oneD := by
  obtain ⟨h1, h4, hp⟩ := qc_pow h
  unfold basisL
  rw [if_pos ⟨h1, h4, by omega, by have : ((2 ^ (qc n).toNat : Nat) : Int) = 2 ^ (qc n).toNat := by simp
                                   omega⟩, ← hp, Int.toNat_natCast]
theorem basis_st {n j : Nat} (h : 0 < qc n) (hj : j < n) : stB (basisL (qc n) (j : Int)) = true ∧ (basisL (qc n) (j : Int)).length = n := by
  rw [basis_eq h hj]
  refine ⟨stB_iff.2 ⟨fun x hx => ?_, by simpa using h⟩, by simp⟩
  rcases List.mem_or_eq_of_mem_set hx with hx | rfl
  · rw [(List.mem_replicate.1 hx).2]; decide
  · exact oneD_ok
end Go.Proofs.YtkcpemkahkkcmaaGreat
namespace Go.Proofs.YtkcpemkahkkcmaaGreat
theorem root_zero : Zw.zero.root = Zw.zero := by decide
theorem rootN_zero : ∀ k : Nat, rootN k Zw.zero = Zw.zero
  | 0 => rfl
  | k + 1 => by rw [rootN, root_zero]; exact rootN_zero k
theorem upB_zero : ∀ k : Nat, upB k Zw.zero = true
  | 0 => rfl
  | k + 1 => by rw [upB, root_zero, upB_zero k]; decide
theorem red_zero : ∀ k : Nat, red k Zw.zero = (Zw.zero, 0)
  | 0 => rfl
  | k + 1 => by rw [red, if_pos (by decide), show divV Zw.zero = Zw.zero by decide]; exact red_zero k
theorem mul_zeroZ (x : Zw) : x.mul .zero = .zero := by simp [Zw.mul, Zw.zero]
theorem add_zeroZ (x : Zw) : x.add .zero = x := by simp [Zw.add, Zw.zero]
theorem new_zero {k : Int} (h0 : 0 ≤ k) (h1 : k ≤ 120) : newB .zero k = true ∧ newV .zero k = .zero := by
  have hb : newB .zero k = true := newB_iff.2 ⟨by decide, h0, h1, by rw [red_zero]; exact Nat.zero_le _⟩
  exact ⟨hb, by rw [newV_of hb, red_zero]; rfl⟩
theorem dmul_zero {x : Dw} (h : x.ok) : dMulB x .zero = true ∧ dMulV x .zero = .zero := by
  have hn := new_zero (k := x.e + Dw.zero.e) (by show 0 ≤ x.e + 0; have := h.2; omega) (by show x.e + 0 ≤ 120; have := h.2; omega)
  have hm : x.n.mul Dw.zero.n = .zero := mul_zeroZ x.n
  have hb : dMulB x .zero = true := dMulB_iff.2 ⟨h, zero_ok, mulB_iff.2 ⟨h.1, by decide, by rw [hm]; decide⟩, by rw [hm]; exact hn.1⟩
  exact ⟨hb, by rw [dMulV_of hb, hm]; exact hn.2⟩
theorem dzero_mul {x : Dw} (h : x.ok) : dMulB .zero x = true ∧ dMulV .zero x = .zero := by
  rw [dMulB_comm x .zero, dMulV_comm x .zero]
  exact dmul_zero h
theorem dadd_zeroK {s : Dw} (h : s.ok) : dAddB s .zero = true ∧ dAddV s .zero = s := by
  have ht : topE s .zero = s.e := by
    have := h.2
    unfold topE
    show (if (0 : Int) < s.e then s.e else 0) = s.e
    split <;> omega
  have ha : numA s .zero = s.n := by unfold numA; rw [ht, Int.sub_self]; rfl
  have hb : numB s .zero = .zero := by unfold numB; exact rootN_zero _
  have hs := newV_self h
  have e : dAddB s .zero = true := dAddB_iff.2 ⟨h, zero_ok, by rw [ht, Int.sub_self]; rfl, upB_zero _, by rw [ha, hb]; exact addB_iff.2 ⟨h.1, by decide, by rw [add_zeroZ]; exact h.1⟩, by rw [ha, hb, add_zeroZ, ht]; exact hs.1⟩
  exact ⟨e, by rw [dAddV_of e, ha, hb, add_zeroZ, ht]; exact hs.2⟩
theorem mrow_sum : ∀ (l : List (Dw × Dw)) (s : Dw), s.ok → (∀ p ∈ l, p.1.ok ∧ p.2.ok) → mrow s l = if l.all (fun p => dMulB p.1 p.2) then sumD s (l.map fun p => dMulV p.1 p.2) else none
  | [], s, _, _ => rfl
  | p :: l, s, hs, hl => by
    have hp := hl p (List.mem_cons_self ..)
    have hl' := fun q hq => hl q (List.mem_cons_of_mem _ hq)
    rw [mrow]
    simp only [List.all_cons, List.map_cons, sumD]
    by_cases hz : p.1 = .zero ∨ p.2 = .zero
    · have hm : dMulB p.1 p.2 = true ∧ dMulV p.1 p.2 = .zero := by
        rcases hz with h | h
        · rw [h]; exact dzero_mul hp.2
        · rw [h]; exact dmul_zero hp.1
      rw [if_pos hz, hm.1, hm.2, (dadd_zeroK hs).1, (dadd_zeroK hs).2, mrow_sum l s hs hl']
      simp only [Bool.true_and, if_true]
    · rw [if_neg hz]
      cases hb : dMulB p.1 p.2
      · simp
      · cases ha : dAddB s (dMulV p.1 p.2)
        · simp
        · rw [mrow_sum l _ (dAddV_ok ha) hl']
          simp only [Bool.true_and, Bool.and_self, if_true]
theorem row_sum {a b : List Dw} (ha : ∀ x ∈ a, x.ok) (hb : ∀ x ∈ b, x.ok) : rowO a b = if cmbB dMulB a b then sumD .zero (cmbL dMulV dMulB a b) else none := by
  have h := mrow_sum (a.zip b) .zero zero_ok fun p hp => ⟨ha _ (List.of_mem_zip hp).1, hb _ (List.of_mem_zip hp).2⟩
  unfold rowO
  rw [h]
  by_cases hc : cmbB dMulB a b = true
  · rw [if_pos (show (a.zip b).all (fun p => dMulB p.1 p.2) = true from hc), if_pos hc, cmbL, if_pos hc]
  · rw [if_neg (show ¬ (a.zip b).all (fun p => dMulB p.1 p.2) = true from hc), if_neg hc]
theorem eb_cmbM (a b : List Dw) : Eb (cmbL dMulV dMulB a b) := by
  intro y hy
  unfold cmbL at hy
  split at hy
  · obtain ⟨p, -, rfl⟩ := List.mem_map.1 hy
    exact mul_eb _ _
  · cases hy
theorem len_cmbM (V : Dw → Dw → Dw) (T : Dw → Dw → Bool) (a b : List Dw) : (cmbL V T a b).length ≤ b.length := by
  unfold cmbL
  split
  · rw [List.length_map, List.length_zip]; omega
  · exact Nat.zero_le _
end Go.Proofs.YtkcpemkahkkcmaaGreat
namespace Go.Proofs.YtkcpemkahkkcmaaGreat
open Go.RowKit
attribute [local irreducible] World.cell?
end Go.Proofs.YtkcpemkahkkcmaaGreat
namespace Go.Proofs.YtkcpemkahkkcmaaGreat
open Go.RowKit
theorem appB_of {M : List (List Dw)} {v : List Dw} (hM : mtB M = true) (hv : stB v = true) (hl : M.length = v.length) : appB M v = M.all fun r => rowB r v := by
  unfold appB; rw [hM, hv, decide_eq_true hl]; rfl
theorem app_step {M : List (List Dw)} {v : List Dw} {j : Nat} {r : List Dw} (hr : M[j]? = some r) : flat ((M.map fun r => rowV r v).take j) ++ fl (rowV r v) = flat ((M.map fun r => rowV r v).take (j + 1)) := by
  rw [List.take_add_one, List.getElem?_map, hr, flat_app]
  simp [flat]
attribute [local irreducible] World.cell?
end Go.Proofs.YtkcpemkahkkcmaaGreat
namespace Go.Proofs.YtkcpemkahkkcmaaGreat
open Go.RowKit
attribute [local irreducible] World.cell?
end Go.Proofs.YtkcpemkahkkcmaaGreat
namespace Go.Proofs.YtkcpemkahkkcmaaGreat
open Go.RowKit
theorem idM_yes {n : Int} (h : 1 ≤ n ∧ n ≤ 4) : idM n = (List.range (2 ^ n.toNat)).map fun (i : Nat) => basisL n (i : Int) := if_pos h
theorem idM_no {n : Int} (h : ¬ (1 ≤ n ∧ n ≤ 4)) : idM n = [] := if_neg h
theorem idM_len {n : Int} (h : 1 ≤ n ∧ n ≤ 4) : (idM n).length = 2 ^ n.toNat := by rw [idM_yes h, List.length_map, List.length_range]
attribute [local irreducible] World.cell?
end Go.Proofs.YtkcpemkahkkcmaaGreat
namespace Go.Proofs.YtkcpemkahkkcmaaGreat
open Go.RowKit
theorem amps_rect {n : Nat} : ∀ {M : List (List Dw)}, (∀ r ∈ M, r.length = n) → amps M = M.length * n
  | [], _ => by simp [amps]
  | r :: M, h => by
    have h1 := amps_rect (M := M) fun s hs => h s (List.mem_cons_of_mem _ hs)
    have h2 := h r (List.mem_cons_self ..)
    unfold amps at *
    rw [List.map_cons, List.sum_cons, h1, h2, List.length_cons, Nat.succ_mul]
    omega
theorem basisL_len (n i : Int) : (basisL n i).length ≤ 16 := by
  unfold basisL
  split
  · rename_i h
    rw [List.length_set, List.length_replicate]
    rcases (show n = 1 ∨ n = 2 ∨ n = 3 ∨ n = 4 by omega) with rfl | rfl | rfl | rfl <;> decide
  · exact Nat.zero_le _
theorem amps_le16 : ∀ {M : List (List Dw)}, (∀ r ∈ M, r.length ≤ 16) → amps M ≤ M.length * 16
  | [], _ => by simp [amps]
  | r :: M, h => by
    have h1 := amps_le16 (M := M) fun s hs => h s (List.mem_cons_of_mem _ hs)
    have h2 := h r (List.mem_cons_self ..)
    unfold amps at *
    rw [List.map_cons, List.sum_cons, List.length_cons, Nat.succ_mul]
    omega
theorem idM_amps (n : Int) : (idM n).length ≤ 16 ∧ amps (idM n) ≤ 256 := by
  by_cases h : 1 ≤ n ∧ n ≤ 4
  · have hl := idM_len h
    have h16 : 2 ^ n.toNat ≤ 16 := by rcases (show n = 1 ∨ n = 2 ∨ n = 3 ∨ n = 4 by omega) with rfl | rfl | rfl | rfl <;> decide
    have h2 := amps_le16 (M := idM n) fun r hr => by
      rw [idM_yes h] at hr
      obtain ⟨i, _, rfl⟩ := List.mem_map.1 hr
      exact basisL_len n _
    exact ⟨by omega, by omega⟩
  · rw [idM_no h]; exact ⟨by decide, by decide⟩
attribute [local irreducible] World.cell?
end Go.Proofs.YtkcpemkahkkcmaaGreat
namespace Go.Proofs.YtkcpemkahkkcmaaGreat
open Go.RowKit
attribute [local irreducible] World.cell?
set_option maxRecDepth 100000 in
set_option maxHeartbeats 1600000 in
theorem ivalidMt (B C : Nat) (v : Value) (M : List (List Dw)) (w : World) (hv : DSM w B C v M) (he : EbM M) (hn : M.length ≤ 1048576) (hm : amps M ≤ 1048576) :
    Calls Tryz.prog 33 #[v] w fun e w' => e = .returned (.bool (mtB M)) ∧ Below w.heap.size w w' := by
  obtain ⟨a, cap, rfl, hcap, hr⟩ := hv
  have Hr := Lib.hid hr
  have HeM := Lib.hid he
  clear hr he
  obtain ⟨R, hR⟩ : ∃ R, R = mtB M := ⟨_, rfl⟩
  rw [← hR]
  have HR := Lib.hid hR
  clear hR
  go_enter Tryz.func33, Tryz.ntmps33
  go_wp2_with fail
  go_loopg [7] M.length (fun k i wr => ∃ j : Nat, k = M.length - j ∧ j ≤ M.length ∧ i = .int .i64 j ∧ Hid ((M.take j).all (fun r => decide (r.length = M.length) && stB r) = true) ∧ Hid (Below w.heap.size w wr))
  case atStart => exact ⟨0, rfl, Nat.zero_le _, rfl, rfl, Below.refl _ _⟩
  case round =>
    obtain ⟨j, rfl, hj, rfl, Hall, Hb⟩ := hrel
    by_cases hlt : j < M.length
    · obtain ⟨g, rfl, _, _, hrow⟩ := Hr.out (by omega)
      obtain ⟨r, hr⟩ : ∃ r, M[j]? = some r := ⟨M[j], List.getElem?_eq_getElem hlt⟩
      have r1 := hrow.block (Hb.out.block _ hrow.lt) fun k _ _ hk => Hb.out.block k hk
      obtain ⟨p, pc, c0, hd1⟩ := r1.cell hr
      have Hd1 := Lib.hid hd1.dsl
      have Hat := Lib.hid (all_take (p := fun r => decide (r.length = M.length) && stB r) hr Hall.out)
      have Hno := Lib.hid (fun h => all_no (p := fun r => decide (r.length = M.length) && stB r) hr h)
      have He := Lib.hid (fun W (h1 : DSl W B (.slice p r.length pc) r) => ivalidSt B (.slice p r.length pc) r W h1 (HeM.out r (List.mem_of_getElem? hr)) (by have := amps_row hr; omega))
      have hrl := amps_row hr
      clear hd1 r1 hrow hr
      by_cases hlen : r.length = M.length
      · rw [hlen] at c0 He Hd1
        have Hlen := Lib.hid hlen
        clear hlen hrl
        have hd2 : ((M.length : Int) != M.length) = false := by simp
        cases hs : stB r with
        | false =>
          have hS : mtB M = false := by unfold mtB; rw [Hno.out (by rw [hs]; simp)]; simp
          obtain rfl : R = false := HR.out.trans hS
          rw [hs] at He
          go_wp2_with fail
          refine (He.out _ Hd1.out).mono ?_
          rintro e w2 ⟨rfl, hb2⟩
          have Hb2 := Lib.hid (below_up Hb.out hb2 Hb.out.size)
          clear hb2
          go_wp2_with fail
          go_ret
          exact ⟨rfl, Hb2.out⟩
        | true =>
          rw [hs] at He
          go_wp2_with fail
          refine (He.out _ Hd1.out).mono ?_
          rintro e w2 ⟨rfl, hb2⟩
          have Hb2 := Lib.hid (below_up Hb.out hb2 Hb.out.size)
          clear hb2
          go_wp2_with fail
          go_roundg (M.length - (j + 1))
          case measure => omega
          case rel => exact ⟨j + 1, rfl, by omega, by go_num, Lib.hid (by rw [Hat.out, hs, decide_eq_true Hlen.out]; rfl), Hb2⟩
      · have hS : mtB M = false := by unfold mtB; rw [Hno.out (by rw [decide_eq_false hlen]; rfl)]; simp
        obtain rfl : R = false := HR.out.trans hS
        have hd : ((r.length : Int) != (M.length : Int)) = true := by simp; omega
        go_wp2_with fail
        go_ret
        exact ⟨rfl, Hb.out⟩
    · obtain rfl : j = M.length := by omega
      have hall := Hall.out
      rw [List.take_length] at hall
      have hS : mtB M = decide (0 < M.length) := by unfold mtB; rw [hall, Bool.and_true]
      by_cases h0 : 0 < M.length
      · obtain rfl : R = true := HR.out.trans (hS.trans (decide_eq_true h0))
        go_wp2_with fail
        go_returns
        exact ⟨by simp <;> omega, Hb.out⟩
      · obtain rfl : R = false := HR.out.trans (hS.trans (decide_eq_false h0))
        go_wp2_with fail
        go_returns
        exact ⟨by simp <;> omega, Hb.out⟩
end Go.Proofs.YtkcpemkahkkcmaaGreat
