/- BaseB22: several of our texts in one: MtD MtKp MtA MtKc DsKd. -/
import Derived.Test.YtkcpemkahkkcmaaBaseB10
import Derived.Test.YtkcpemkahkkcmaaDwN
import Derived.Test.YtkcpemkahkkcmaaBaseB09
import Derived.Test.YtkcpemkahkkcmaaDsKc
import Derived.Test.YtkcpemkahkkcmaaBaseB20
import Derived.Test.YtkcpemkahkkcmaaMtW
import Derived.Test.YtkcpemkahkkcmaaDsKa
import Derived.Test.YtkcpemkahkkcmaaPhF
namespace Go.Proofs.Ytkcpemkahkkcmaa
open Go.RowKit
theorem adjM_yes {M : List (List Dw)} (h : mtB M = true) : adjM M = (List.range M.length).map fun i => (col M i).map dConjV := if_pos h
theorem adjM_no {M : List (List Dw)} (h : mtB M = false) : adjM M = [] := if_neg (by rw [h]; decide)
theorem adjM_len {M : List (List Dw)} (h : mtB M = true) : (adjM M).length = M.length := by rw [adjM_yes h, List.length_map, List.length_range]
theorem adjM_step {M : List (List Dw)} (h : mtB M = true) {j : Nat} (hj : j < M.length) : (adjM M).take (j + 1) = (adjM M).take j ++ [(col M j).map dConjV] := by
  rw [List.take_add_one, adjM_yes h, List.getElem?_map, List.getElem?_range hj]
  rfl
theorem turn_at {l : List Dw} {f : Dw → Dw} {k : Nat} {x : Dw} (hx : l[k]? = some x) : ((l.map f).take k ++ l.drop k)[k]? = some x := by
  have h : k < l.length := by
    rcases Nat.lt_or_ge k l.length with h' | h'
    · exact h'
    · rw [List.getElem?_eq_none h'] at hx; cases hx
  rw [List.getElem?_append_right (by simp; omega), List.getElem?_drop]
  rw [show k + (k - ((l.map f).take k).length) = k by simp; omega]
  exact hx
theorem turn_set {l : List Dw} {f : Dw → Dw} {k : Nat} {x : Dw} (hx : l[k]? = some x) : ((l.map f).take k ++ l.drop k).set k (f x) = (l.map f).take (k + 1) ++ l.drop (k + 1) := by
  have h : k < l.length := by
    rcases Nat.lt_or_ge k l.length with h' | h'
    · exact h'
    · rw [List.getElem?_eq_none h'] at hx; cases hx
  have e : l.drop k = x :: l.drop (k + 1) := by
    rw [List.getElem?_eq_getElem h] at hx
    injection hx with hx
    rw [← hx]
    exact (List.getElem_cons_drop ..).symm
  rw [List.set_append_right _ _ (by simp; omega), show k - ((l.map f).take k).length = 0 by simp; omega, e, List.set_cons_zero, List.take_add_one, List.getElem?_map, hx, List.append_assoc]
  rfl
attribute [local irreducible] World.cell?
set_option maxRecDepth 100000 in
set_option maxHeartbeats 3200000 in
theorem sadj_yes (B C : Nat) (v : Value) (M : List (List Dw)) (w : World) (hv : DSM w B C v M) (hM : mtB M = true) (hm : amps M ≤ 1048576) :
    Calls Try.prog 27 #[v] w fun e w' => ∃ u, e = .returned u ∧ DSM w' w.heap.size w'.heap.size u (adjM M) ∧ Below w.heap.size w w' := by
  obtain ⟨i0, hi, hz0, hz1, hz2⟩ := info_parts infoDs
  have hlen := mtB_len hM
  have Hv := Lib.hid hv
  have H1 := Lib.hid (fun W (h : DSM W B C v M) => svalidMt B C v M W h (by omega) hm)
  rw [hM] at H1
  have Hcol := Lib.hid (fun (k : Nat) (hk : k < M.length) W (h : DSM W B C v M) => scolumn B C v M k W h (fun r hr => by rw [((mtB_iff.1 hM).2 r hr).1]; exact hk) (by omega) (by omega))
  have Hst := Lib.hid (fun (j : Nat) (hj : j < M.length) => adjM_step hM hj)
  have Hl := Lib.hid (adjM_len hM)
  clear hM
  obtain ⟨a, cap, rfl, hcap, -⟩ := hv
  go_enter Try.func27, Try.ntmps27
  go_wp2_with fail
  go_loopg [3, 4] M.length (fun n out i wr => ∃ (j : Nat) (vs : List Value), n = M.length - j ∧ j ≤ M.length ∧ i = .int .i64 j ∧ Hid (wr.ownsRow w.heap.size 31 1 out j vs) ∧ Hid (RwS wr w.heap.size wr.heap.size vs ((adjM M).take j)) ∧ Hid (Below w.heap.size w wr))
  case atStart => exact ⟨0, [], rfl, Nat.zero_le _, rfl, ownM_new rfl, RwS.nil, (Below.refl _ _).alloc (Nat.le_refl _) _⟩
  case round =>
    obtain ⟨j, vs, rfl, hj, rfl, Hown, Hrows, Hb⟩ := hrel
    have hs := Hb.out.size
    have H1r := Lib.hid (H1.out wr (Hv.out.block fun k _ _ hk => Hb.out.block k hk))
    by_cases hlt : j < M.length
    · go_wp2_with fail
      refine (H1r.out).mono ?_
      rintro e w2 ⟨rfl, hb2⟩
      have Hv2 := Lib.hid (Hv.out.block fun k _ _ hk => (hb2.block k (by omega)).trans (Hb.out.block k hk))
      have Hown2 := Lib.hid (row_below Hown.out hb2)
      have Hrows2 := Lib.hid ((Hrows.out.block fun k _ _ hk => hb2.block k hk).mono (Nat.le_refl _) hb2.size)
      have Hb2 := Lib.hid (Hb.out.trans (hb2.mono hs))
      have hs2 := Hb2.out.size
      have Hc := Lib.hid (Hcol.out j hlt w2 Hv2.out)
      clear hb2 Hown Hrows Hb H1r Hv2
      go_wp2_with fail
      refine (Hc.out).mono ?_
      rintro e w3 ⟨u, rfl, hd, hb3⟩
      have hcl := col_len M j
      have Hst2 := Lib.hid (Hst.out j hlt)
      generalize col M j = c at *
      obtain ⟨p, pc, rfl, hpc, hd2⟩ := hd
      obtain ⟨g, rfl, hgB, hrow⟩ := hd2 (by omega)
      rw [hcl] at hpc ⊢
      have Hrow := Lib.hid hrow
      have Hb3 := Lib.hid hb3
      have hs3 := hb3.size
      have Hcl := Lib.hid hcl
      clear hd2 hrow hb3 Hc hcl
      go_wp2_with fail
      go_loopg [6] M.length (fun n i wr => ∃ k : Nat, n = M.length - k ∧ k ≤ M.length ∧ i = .int .i64 k ∧ Hid (DRow wr g ((c.map dConjV).take k ++ c.drop k)) ∧ Hid (Below w2.heap.size w2 wr))
      case atStart => exact ⟨0, rfl, Nat.zero_le _, rfl, by simpa using Hrow, Hb3⟩
      case round =>
        obtain ⟨k, rfl, hk, rfl, Hri, Hbi⟩ := hrel
        have hsi := Hbi.out.size
        by_cases hlk : k < M.length
        · obtain ⟨x, hx⟩ : ∃ x, c[k]? = some x := ⟨c[k]'(by have := Hcl.out; omega), List.getElem?_eq_getElem _⟩
          have hgl := Hri.out.lt
          obtain ⟨c0, c1, c2, c3, c4⟩ := Hri.out.cells (turn_at (f := dConjV) hx)
          have Hx := Lib.hid (sconjD_any x wr)
          have Hcl2 := Hcl.out
          go_wp2_with fail
          refine (Hx.out).mono ?_
          rintro e wj ⟨rfl, hbj⟩
          have hrj := Hri.out.below hbj hgl
          obtain ⟨d0, d1, d2, d3, d4⟩ := hrj.cells (turn_at (f := dConjV) hx)
          have f1 := fun o => hrj.free o
          have hgj := hrj.lt
          have hr3 := hrj.put k (by simp; omega) (dConjV x)
          rw [turn_set hx] at hr3
          have Hr3 := Lib.hid hr3
          have Hbj := Lib.hid (Hbi.out.trans (hbj.mono hsi))
          clear c0 c1 c2 c3 c4 hr3 hrj hbj Hri Hbi Hx hx Hcl2
          generalize dConjV x = y at *
          go_wp2_with fail
          go_roundg (M.length - (k + 1))
          case measure => omega
          case rel =>
            refine ⟨k + 1, rfl, by omega, by go_num, Hr3, ?_⟩
            have := Hbj.out
            show Below _ _ _
            go_grown
        · obtain rfl : k = M.length := by omega
          have hr := Hri.out
          have hcm : (c.map dConjV).length = M.length := by rw [List.length_map]; exact Hcl.out
          rw [← Hcl.out, List.drop_length, List.append_nil, show c.length = (c.map dConjV).length by rw [List.length_map], List.take_length] at hr
          have hrl := hr.lt
          generalize c.map dConjV = r at *
          have Hdsc := Lib.hid (show DSc wr w2.heap.size wr.heap.size (.slice (some ⟨g, 0, none⟩) M.length pc) r from ⟨_, _, by rw [hcm], by rw [hcm]; exact hpc, fun _ => ⟨g, rfl, hgB, hrl, hr⟩⟩)
          have Hown4 := Lib.hid (row_below Hown2.out Hbi.out)
          have Hrows4 := Lib.hid (Hrows2.out.upto.snoc Hdsc.out hs2 hsi fun k _ _ hk => Hbi.out.block k hk)
          have Hb4 := Lib.hid (Hb2.out.trans (Hbi.out.mono hs2))
          have hs4 := Hb4.out.size
          rw [← Hst2.out] at Hrows4
          clear hr Hri Hbi Hown2 Hrows2 Hb2 Hb3 Hrow Hcl
          go_wp2_with (first
            | (at_builtin; refine wpList_append_own _ rfl _ _ 24 rfl w.heap.size 31 i0 (.slice none 0 0) 1 24 Try.underlying24 hi hz0 hz1 hz2 rfl (by decide) _ _ _ rfl (Hown4.out.alloc _) ⟨wr.heap.size, 0, none⟩ 1 1 [.slice (some ⟨g, 0, none⟩) M.length pc] rfl rfl (slice_new _ _ _) (by intro u hu; simp at hu; subst hu; rfl) ?d3 ?d4 ?d5 ?_))
          case d3 => unfold maxLen; omega
          case d4 => omega
          case d5 => first | omega | (simp; omega)
          intro v' w5 hown' hgrow _
          have HB5 := Lib.hid ((Hb4.out.alloc hs4 (.cells #[.slice (some ⟨g, 0, none⟩) M.length pc] 31)).grown hgrow (by simp; omega) (fun q hq => by have := Hown4.out.lt q hq; omega))
          have Hrows5 := Lib.hid (((Hrows4.out.block fun k _ _ hk => Below.heap_alloc _ _ _ hk).grown (Hown4.out.alloc _) hgrow).upto)
          have Hown5 := Lib.hid hown'
          clear hown' hgrow
          go_wp2_with fail
          go_roundg (M.length - (j + 1))
          case measure => omega
          case rel => exact ⟨j + 1, _, rfl, by omega, by go_num, Hown5.out, Hrows5, HB5⟩
    · obtain rfl : j = M.length := by omega
      have hown := Hown.out
      have hrows := Hrows.out
      rw [← Hl.out, List.take_length] at hrows
      rw [← Hl.out] at hown
      have Hd := Lib.hid (DSM.of_own hown hrows (Nat.le_refl _))
      clear hown hrows
      go_wp2_with fail
      refine (H1r.out).mono ?_
      rintro e w2 ⟨rfl, hb2⟩
      have Hb2 := Lib.hid (Hb.out.trans (hb2.mono hs))
      have Hd2 := Lib.hid ((Hd.out.below hb2).mono (Nat.le_refl _) hb2.size)
      clear hb2
      go_wp2_with fail
      go_ret
      exact ⟨_, rfl, Hd2.out, Hb2.out⟩
set_option maxRecDepth 100000 in
set_option maxHeartbeats 1600000 in
theorem sadj_no (B C : Nat) (v : Value) (M : List (List Dw)) (w : World) (hv : DSM w B C v M) (hM : mtB M = false) (hn : M.length ≤ 1048576) (hm : amps M ≤ 1048576) :
    Calls Try.prog 27 #[v] w fun e w' => ∃ u, e = .returned u ∧ DSM w' w.heap.size w'.heap.size u [] ∧ Below w.heap.size w w' := by
  have Hv := Lib.hid hv
  have H1 := Lib.hid (fun W (h : DSM W B C v M) => svalidMt B C v M W h hn hm)
  rw [hM] at H1
  clear hM
  obtain ⟨a, cap, rfl, hcap, -⟩ := hv
  go_enter Try.func27, Try.ntmps27
  go_wp2_with fail
  go_loopg [3, 4] 0 (fun n out i wr => n = 0 ∧ i = .int .i64 0 ∧ out = .slice (some ⟨w.heap.size, 0, none⟩) 0 0 ∧ Hid (Below w.heap.size w wr))
  case atStart => exact ⟨rfl, rfl, rfl, (Below.refl _ _).alloc (Nat.le_refl _) _⟩
  case round =>
    obtain ⟨rfl, rfl, rfl, Hb⟩ := hrel
    have hs := Hb.out.size
    have H1r := Lib.hid (H1.out wr (Hv.out.block fun k _ _ hk => Hb.out.block k hk))
    go_wp2_with fail
    refine (H1r.out).mono ?_
    rintro e w2 ⟨rfl, hb2⟩
    have Hb2 := Lib.hid (Hb.out.trans (hb2.mono hs))
    clear hb2
    go_wp2_with fail
    go_ret
    exact ⟨_, rfl, DSM.nil, Hb2.out⟩
theorem sadj (B C : Nat) (v : Value) (M : List (List Dw)) (w : World) (hv : DSM w B C v M) (hn : M.length ≤ 1048576) (hm : amps M ≤ 1048576) :
    Calls Try.prog 27 #[v] w fun e w' => ∃ u, e = .returned u ∧ DSM w' w.heap.size w'.heap.size u (adjM M) ∧ Below w.heap.size w w' := by
  cases hM : mtB M with
  | false => rw [adjM_no hM]; exact sadj_no B C v M w hv hM hn hm
  | true => exact sadj_yes B C v M w hv hM hm
end Go.Proofs.Ytkcpemkahkkcmaa
namespace Go.Proofs.Ytkcpemkahkkcmaa
theorem root_zero : Zw.zero.root = Zw.zero := by decide
theorem rootN_zero : ∀ k : Nat, rootN k Zw.zero = Zw.zero
  | 0 => rfl
  | k + 1 => by rw [rootN, root_zero]; exact rootN_zero k
theorem upB_zero : ∀ k : Nat, upB k Zw.zero = true
  | 0 => rfl
  | k + 1 => by rw [upB, root_zero, upB_zero k]; decide
theorem red_zero : ∀ k : Nat, red k Zw.zero = (Zw.zero, 0)
  | 0 => rfl
  | k + 1 => by rw [red, if_pos (by decide), show divV Zw.zero = Zw.zero by decide]; exact red_zero k
theorem mul_zeroZ (x : Zw) : x.mul .zero = .zero := by simp [Zw.mul, Zw.zero]
theorem add_zeroZ (x : Zw) : x.add .zero = x := by simp [Zw.add, Zw.zero]
theorem new_zero {k : Int} (h0 : 0 ≤ k) (h1 : k ≤ 120) : newB .zero k = true ∧ newV .zero k = .zero := by
  have hb : newB .zero k = true := newB_iff.2 ⟨by decide, h0, h1, by rw [red_zero]; exact Nat.zero_le _⟩
  exact ⟨hb, by rw [newV_of hb, red_zero]; rfl⟩
theorem dmul_zero {x : Dw} (h : x.ok) : dMulB x .zero = true ∧ dMulV x .zero = .zero := by
  have hn := new_zero (k := x.e + Dw.zero.e) (by show 0 ≤ x.e + 0; have := h.2; omega) (by show x.e + 0 ≤ 120; have := h.2; omega)
  have hm : x.n.mul Dw.zero.n = .zero := mul_zeroZ x.n
  have hb : dMulB x .zero = true := dMulB_iff.2 ⟨h, zero_ok, mulB_iff.2 ⟨h.1, by decide, by rw [hm]; decide⟩, by rw [hm]; exact hn.1⟩
  exact ⟨hb, by rw [dMulV_of hb, hm]; exact hn.2⟩
theorem dzero_mul {x : Dw} (h : x.ok) : dMulB .zero x = true ∧ dMulV .zero x = .zero := by
  rw [dMulB_comm x .zero, dMulV_comm x .zero]
  exact dmul_zero h
theorem dadd_zeroK {s : Dw} (h : s.ok) : dAddB s .zero = true ∧ dAddV s .zero = s := by
  have ht : topE s .zero = s.e := by
    have := h.2
    unfold topE
    show (if (0 : Int) < s.e then s.e else 0) = s.e
    split <;> omega
  have ha : numA s .zero = s.n := by unfold numA; rw [ht, Int.sub_self]; rfl
  have hb : numB s .zero = .zero := by unfold numB; exact rootN_zero _
  have hs := newV_self h
  have e : dAddB s .zero = true := dAddB_iff.2 ⟨h, zero_ok, by rw [ht, Int.sub_self]; rfl, upB_zero _, by rw [ha, hb]; exact addB_iff.2 ⟨h.1, by decide, by rw [add_zeroZ]; exact h.1⟩, by rw [ha, hb, add_zeroZ, ht]; exact hs.1⟩
  exact ⟨e, by rw [dAddV_of e, ha, hb, add_zeroZ, ht]; exact hs.2⟩
theorem mrow_sum : ∀ (l : List (Dw × Dw)) (s : Dw), s.ok → (∀ p ∈ l, p.1.ok ∧ p.2.ok) → mrow s l = if l.all (fun p => dMulB p.1 p.2) then sumD s (l.map fun p => dMulV p.1 p.2) else none
  | [], s, _, _ => rfl
  | p :: l, s, hs, hl => by
    have hp := hl p (List.mem_cons_self ..)
    have hl' := fun q hq => hl q (List.mem_cons_of_mem _ hq)
    rw [mrow]
    simp only [List.all_cons, List.map_cons, sumD]
    by_cases hz : p.1 = .zero ∨ p.2 = .zero
    · have hm : dMulB p.1 p.2 = true ∧ dMulV p.1 p.2 = .zero := by
        rcases hz with h | h
        · rw [h]; exact dzero_mul hp.2
        · rw [h]; exact dmul_zero hp.1
      rw [if_pos hz, hm.1, hm.2, (dadd_zeroK hs).1, (dadd_zeroK hs).2, mrow_sum l s hs hl']
      simp only [Bool.true_and, if_true]
    · rw [if_neg hz]
      cases hb : dMulB p.1 p.2
      · simp
      · cases ha : dAddB s (dMulV p.1 p.2)
        · simp
        · rw [mrow_sum l _ (dAddV_ok ha) hl']
          simp only [Bool.true_and, Bool.and_self, if_true]
theorem row_sum {a b : List Dw} (ha : ∀ x ∈ a, x.ok) (hb : ∀ x ∈ b, x.ok) : rowO a b = if cmbB dMulB a b then sumD .zero (cmbL dMulV dMulB a b) else none := by
  have h := mrow_sum (a.zip b) .zero zero_ok fun p hp => ⟨ha _ (List.of_mem_zip hp).1, hb _ (List.of_mem_zip hp).2⟩
  unfold rowO
  rw [h]
  by_cases hc : cmbB dMulB a b = true
  · rw [if_pos (show (a.zip b).all (fun p => dMulB p.1 p.2) = true from hc), if_pos hc, cmbL, if_pos hc]
  · rw [if_neg (show ¬ (a.zip b).all (fun p => dMulB p.1 p.2) = true from hc), if_neg hc]
theorem eb_cmbM (a b : List Dw) : Eb (cmbL dMulV dMulB a b) := by
  intro y hy
  unfold cmbL at hy
  split at hy
  · obtain ⟨p, -, rfl⟩ := List.mem_map.1 hy
    exact mul_eb _ _
  · cases hy
theorem len_cmbM (V : Dw → Dw → Dw) (T : Dw → Dw → Bool) (a b : List Dw) : (cmbL V T a b).length ≤ b.length := by
  unfold cmbL
  split
  · rw [List.length_map, List.length_zip]; omega
  · exact Nat.zero_le _
end Go.Proofs.Ytkcpemkahkkcmaa
namespace Go.Proofs.Ytkcpemkahkkcmaa
open Go.RowKit
theorem appB_of {M : List (List Dw)} {v : List Dw} (hM : mtB M = true) (hv : stB v = true) (hl : M.length = v.length) : appB M v = M.all fun r => rowB r v := by
  unfold appB; rw [hM, hv, decide_eq_true hl]; rfl
theorem app_step {M : List (List Dw)} {v : List Dw} {j : Nat} {r : List Dw} (hr : M[j]? = some r) : flat ((M.map fun r => rowV r v).take j) ++ fl (rowV r v) = flat ((M.map fun r => rowV r v).take (j + 1)) := by
  rw [List.take_add_one, List.getElem?_map, hr, flat_app]
  simp [flat]
attribute [local irreducible] World.cell?
set_option maxRecDepth 100000 in
set_option maxHeartbeats 3200000 in
theorem sapply_yes (B C D : Nat) (v u : Value) (M : List (List Dw)) (b : List Dw) (w : World) (hv : DSM w B C v M) (hu : DSl w D u b) (hM : mtB M = true) (hb : stB b = true) (hl : M.length = b.length) (hm : amps M ≤ 1048576) :
    Calls Try.prog 70 #[v, u] w fun e w' => (∃ r, e = .returned (.tuple #[r, .bool (appB M b)]) ∧ DSl w' w.heap.size r (appL M b)) ∧ Below w.heap.size w w' := by
  obtain ⟨i0, hi, hz0, hz1, hz2⟩ := info_parts infoDw
  have hlen := stB_len hb
  have H1 := Lib.hid (svalidMt B C v M w hv (by omega) hm)
  have H2 := Lib.hid (fun W (h : DSl W D u b) => svalidSt D u b W h (by omega))
  rw [hM] at H1
  rw [hb] at H2
  have Hv := Lib.hid hv
  have Hu := Lib.hid hu
  have Hrl := Lib.hid (fun (j : Nat) (r : List Dw) (h : M[j]? = some r) => (mtB_row hM h).1)
  have Hrow := Lib.hid (fun W (p : Value) (r : List Dw) (h : DSl W B p r) (h' : DSl W D u b) (hlr : r.length = M.length) => srow B D p u r b W h h' (hlr.trans hl) (by omega))
  have hA := appB_of hM hb hl
  obtain ⟨SB, hSB⟩ : ∃ SB, SB = appB M b := ⟨_, rfl⟩
  obtain ⟨SL, hSL⟩ : ∃ SL, SL = appL M b := ⟨_, rfl⟩
  rw [← hSB, ← hSL]
  have HSB := Lib.hid (hSB.trans hA)
  have HSL := Lib.hid (show SL = if SB then M.map (fun r => rowV r b) else [] by rw [hSB]; exact hSL)
  clear hA hSB hSL hM hb
  obtain ⟨a, cap, rfl, hcap, hr⟩ := hv
  obtain ⟨a', cap', rfl, hcap', -⟩ := hu
  rw [← hl] at Hrow H2 hcap' Hu hlen ⊢
  have Hr := Lib.hid hr
  clear hr hl
  have hd2 : ((M.length : Int) != M.length) = false := by simp
  go_enter Try.func70, Try.ntmps70
  go_wp2_with fail
  refine (H1.out).mono ?_
  rintro e w1 ⟨rfl, hb1⟩
  have Hb1 := Lib.hid hb1
  have Hu1 := Lib.hid (Hu.out.below hb1)
  clear hb1
  go_wp2_with fail
  refine (H2.out _ Hu1.out).mono ?_
  rintro e w2 ⟨rfl, hb2⟩
  have Hb2 := Lib.hid (Hb1.out.trans (hb2.mono Hb1.out.size))
  have hs2 := Hb2.out.size
  clear hb2 Hb1 Hu1 H1 H2
  go_wp2_with fail
  go_loopg [6, 7] M.length (fun n out i wr => ∃ j : Nat, n = M.length - j ∧ j ≤ M.length ∧ i = .int .i64 j ∧ Hid (wr.ownsRow w2.heap.size 86 5 out j (flat ((M.map fun r => rowV r b).take j))) ∧ Hid ((M.take j).all (fun r => rowB r b) = true) ∧ Hid (Below w.heap.size w wr) ∧ w2.heap.size ≤ wr.heap.size)
  case atStart => exact ⟨0, rfl, Nat.zero_le _, rfl, own_new rfl, Lib.hid (show (List.take 0 M).all _ = true from rfl), Lib.hid (Hb2.out.alloc hs2 _), by simp⟩
  case round =>
    obtain ⟨j, rfl, hj, rfl, Hown, Hall, Hb, hsz⟩ := hrel
    have hs := Hb.out.size
    by_cases hlt : j < M.length
    · obtain ⟨g, rfl, _, _, hrow⟩ := Hr.out (by omega)
      obtain ⟨r, hr⟩ : ∃ r, M[j]? = some r := ⟨M[j], List.getElem?_eq_getElem hlt⟩
      have r1 := hrow.block (Hb.out.block _ hrow.lt) fun k _ _ hk => Hb.out.block k hk
      obtain ⟨p, pc, c0, hd1⟩ := r1.cell hr
      have hgl := r1.lt
      have Hx := Lib.hid (Hrow.out wr _ r hd1.dsl (Hu.out.block fun k _ hk => Hb.out.block k hk) (Hrl.out j r hr))
      have Hstep := Lib.hid (app_step (v := b) hr)
      have Hat := Lib.hid (all_take (p := fun r => rowB r b) hr Hall.out)
      have Hno := Lib.hid (fun h => all_no (p := fun r => rowB r b) hr h)
      clear hd1 r1 hrow hr
      generalize rowV r b = x at *
      generalize rowB r b = t at *
      go_wp2_with fail
      refine (Hx.out).mono ?_
      rintro e w3 ⟨rfl, hb3⟩
      have Hown3 := Lib.hid ((row_below Hown.out hb3).alloc (.cells #[.int .i64 x.n.a, .int .i64 x.n.b, .int .i64 x.n.c, .int .i64 x.n.d, .int .i64 x.e] 86))
      have Hb3 := Lib.hid (Hb.out.trans (hb3.mono hs))
      have hs3 := Hb3.out.size
      have hsz3 := Nat.le_trans hsz hb3.size
      have Hbx := Lib.hid (heap_alloc_new w3 (.cells #[.int .i64 x.n.a, .int .i64 x.n.b, .int .i64 x.n.c, .int .i64 x.n.d, .int .i64 x.e] 86))
      obtain ⟨q0, q1, q2, q3, q4⟩ := blk_cells5 Hbx.out
      clear hb3 Hown Hb Hx c0
      cases t with
      | false =>
        have hS : (M.all fun r => rowB r b) = false := Hno.out rfl
        obtain rfl : SB = false := HSB.out.trans hS
        obtain rfl : SL = [] := HSL.out
        go_wp2_with fail
        go_returns
        exact ⟨⟨_, rfl, DSl.nil⟩, by have := Hb3.out; go_grown⟩
      | true =>
        go_wp2_with (first
          | (at_builtin; refine wpList_append_own _ rfl _ _ 31 rfl w2.heap.size 86 i0 (.agg #[.int .i64 0, .int .i64 0, .int .i64 0, .int .i64 0, .int .i64 0]) 5 40 Try.underlying31 hi hz0 hz1 hz2 rfl (by decide) _ _ _ rfl (Hown3.out.alloc _) ⟨w3.heap.size + 1, 0, none⟩ 1 1 (fl x) rfl rfl (by simpa using fl_new (w3.alloc (.cells #[.int .i64 x.n.a, .int .i64 x.n.b, .int .i64 x.n.c, .int .i64 x.n.d, .int .i64 x.e] 86)) x 86) (fl_plain _) ?d3 ?d4 ?d5 ?_))
        case d3 => unfold maxLen; omega
        case d4 => omega
        case d5 => first | omega | (simp; omega) | (simp; omega)
        intro v' w4 hown' hgrow _
        have HB4 := Lib.hid (((Hb3.out.alloc hs3 (.cells #[.int .i64 x.n.a, .int .i64 x.n.b, .int .i64 x.n.c, .int .i64 x.n.d, .int .i64 x.e] 86)).alloc (by simp; omega) (.cells #[.int .i64 x.n.a, .int .i64 x.n.b, .int .i64 x.n.c, .int .i64 x.n.d, .int .i64 x.e] 86)).grown hgrow (by simp; omega) (fun q hq => by have := Hown3.out.lt q hq; omega))
        have hsz4 : w2.heap.size ≤ w4.heap.size := by have := hgrow.size; simp at this; omega
        rw [Hstep.out] at hown'
        have Hown4 := Lib.hid hown'
        clear hown' hgrow
        go_wp2_with fail
        go_roundg (M.length - (j + 1))
        case measure => omega
        case rel => exact ⟨j + 1, rfl, by omega, by go_num, Hown4.out, Lib.hid Hat.out, HB4, hsz4⟩
    · obtain rfl : j = M.length := by omega
      have hall := Hall.out
      rw [List.take_length] at hall
      obtain rfl : SB = true := HSB.out.trans hall
      obtain rfl : SL = M.map (fun r => rowV r b) := HSL.out
      have hown := Hown.out
      rw [show M.length = (M.map fun r => rowV r b).length by rw [List.length_map], List.take_length] at hown
      have Hd := Lib.hid ((DSl.of_own hown).mono hs2)
      clear hown
      go_wp2_with fail
      go_returns
      exact ⟨⟨_, rfl, Hd.out⟩, Hb.out⟩
set_option maxRecDepth 100000 in
set_option maxHeartbeats 1600000 in
theorem sapply_no0 (B C D : Nat) (v u : Value) (M : List (List Dw)) (b : List Dw) (w : World) (hv : DSM w B C v M) (hu : DSl w D u b) (hn : M.length ≤ 1048576) (hm : amps M ≤ 1048576) (hM : mtB M = false) :
    Calls Try.prog 70 #[v, u] w fun e w' => (∃ r, e = .returned (.tuple #[r, .bool false]) ∧ DSl w' w.heap.size r []) ∧ Below w.heap.size w w' := by
  have H1 := Lib.hid (svalidMt B C v M w hv hn hm)
  rw [hM] at H1
  clear hM
  obtain ⟨a, cap, rfl, -, -⟩ := hv
  obtain ⟨a', cap', rfl, -, -⟩ := hu
  go_enter Try.func70, Try.ntmps70
  go_wp2_with fail
  refine (H1.out).mono ?_
  rintro e w1 ⟨rfl, hb1⟩
  have Hb1 := Lib.hid hb1
  have hs1 := hb1.size
  clear hb1
  go_wp2_with fail
  go_returns
  exact ⟨⟨_, rfl, DSl.nil⟩, by have := Hb1.out; go_grown⟩
set_option maxRecDepth 100000 in
set_option maxHeartbeats 1600000 in
theorem sapply_no1 (B C D : Nat) (v u : Value) (M : List (List Dw)) (b : List Dw) (w : World) (hv : DSM w B C v M) (hu : DSl w D u b) (hn : M.length ≤ 1048576) (hn' : b.length ≤ 1048576) (hm : amps M ≤ 1048576) (hM : mtB M = true) (hb : stB b = false) :
    Calls Try.prog 70 #[v, u] w fun e w' => (∃ r, e = .returned (.tuple #[r, .bool false]) ∧ DSl w' w.heap.size r []) ∧ Below w.heap.size w w' := by
  have H1 := Lib.hid (svalidMt B C v M w hv hn hm)
  have H2 := Lib.hid (fun W (h : DSl W D u b) => svalidSt D u b W h hn')
  have Hu := Lib.hid hu
  rw [hM] at H1
  rw [hb] at H2
  clear hM hb
  obtain ⟨a, cap, rfl, -, -⟩ := hv
  obtain ⟨a', cap', rfl, -, -⟩ := hu
  go_enter Try.func70, Try.ntmps70
  go_wp2_with fail
  refine (H1.out).mono ?_
  rintro e w1 ⟨rfl, hb1⟩
  have Hb1 := Lib.hid hb1
  have Hu1 := Lib.hid (Hu.out.below hb1)
  clear hb1
  go_wp2_with fail
  refine (H2.out _ Hu1.out).mono ?_
  rintro e w2 ⟨rfl, hb2⟩
  have Hb2 := Lib.hid (Hb1.out.trans (hb2.mono Hb1.out.size))
  have hs2 := Hb2.out.size
  clear hb2
  go_wp2_with fail
  go_returns
  exact ⟨⟨_, rfl, DSl.nil⟩, by have := Hb2.out; go_grown⟩
set_option maxRecDepth 100000 in
set_option maxHeartbeats 1600000 in
theorem sapply_no2 (B C D : Nat) (v u : Value) (M : List (List Dw)) (b : List Dw) (w : World) (hv : DSM w B C v M) (hu : DSl w D u b) (hn : M.length ≤ 1048576) (hn' : b.length ≤ 1048576) (hm : amps M ≤ 1048576) (hM : mtB M = true) (hb : stB b = true) (hne : M.length ≠ b.length) :
    Calls Try.prog 70 #[v, u] w fun e w' => (∃ r, e = .returned (.tuple #[r, .bool false]) ∧ DSl w' w.heap.size r []) ∧ Below w.heap.size w w' := by
  have H1 := Lib.hid (svalidMt B C v M w hv hn hm)
  have H2 := Lib.hid (fun W (h : DSl W D u b) => svalidSt D u b W h hn')
  have Hu := Lib.hid hu
  rw [hM] at H1
  rw [hb] at H2
  clear hM hb
  obtain ⟨a, cap, rfl, -, -⟩ := hv
  obtain ⟨a', cap', rfl, -, -⟩ := hu
  have hd2 : ((M.length : Int) != b.length) = true := by simp; omega
  go_enter Try.func70, Try.ntmps70
  go_wp2_with fail
  refine (H1.out).mono ?_
  rintro e w1 ⟨rfl, hb1⟩
  have Hb1 := Lib.hid hb1
  have Hu1 := Lib.hid (Hu.out.below hb1)
  clear hb1
  go_wp2_with fail
  refine (H2.out _ Hu1.out).mono ?_
  rintro e w2 ⟨rfl, hb2⟩
  have Hb2 := Lib.hid (Hb1.out.trans (hb2.mono Hb1.out.size))
  have hs2 := Hb2.out.size
  clear hb2
  go_wp2_with fail
  go_returns
  exact ⟨⟨_, rfl, DSl.nil⟩, by have := Hb2.out; go_grown⟩
theorem sapply (B C D : Nat) (v u : Value) (M : List (List Dw)) (b : List Dw) (w : World) (hv : DSM w B C v M) (hu : DSl w D u b) (hn : M.length ≤ 1048576) (hn' : b.length ≤ 1048576) (hm : amps M ≤ 1048576) :
    Calls Try.prog 70 #[v, u] w fun e w' => (∃ r, e = .returned (.tuple #[r, .bool (appB M b)]) ∧ DSl w' w.heap.size r (appL M b)) ∧ Below w.heap.size w w' := by
  have hno : appB M b = false → appL M b = [] := fun h => if_neg (by rw [h]; decide)
  cases hM : mtB M with
  | false =>
    have h : appB M b = false := by unfold appB; rw [hM]; rfl
    rw [hno h, h]; exact sapply_no0 B C D v u M b w hv hu hn hm hM
  | true =>
    cases hb : stB b with
    | false =>
      have h : appB M b = false := by unfold appB; rw [hM, hb]; rfl
      rw [hno h, h]; exact sapply_no1 B C D v u M b w hv hu hn hn' hm hM hb
    | true =>
      by_cases hl : M.length = b.length
      · exact sapply_yes B C D v u M b w hv hu hM hb hl hm
      · have h : appB M b = false := by unfold appB; rw [hM, hb, decide_eq_false hl]; rfl
        rw [hno h, h]; exact sapply_no2 B C D v u M b w hv hu hn hn' hm hM hb hl
end Go.Proofs.Ytkcpemkahkkcmaa
namespace Go.Proofs.Ytkcpemkahkkcmaa
open Go.RowKit
theorem idM_get {n : Int} (h : 1 ≤ n ∧ n ≤ 4) {j : Nat} (hj : j < 2 ^ n.toNat) : (idM n)[j]? = some (basisL n (j : Int)) := by
  rw [idM_yes h, List.getElem?_map, List.getElem?_range hj]; rfl
attribute [local irreducible] World.cell?
set_option maxRecDepth 100000 in
set_option maxHeartbeats 3200000 in
theorem iident1 (w : World) :
    Calls Try.prog 90 #[.int .i64 1] w fun e w' => ∃ u, e = .returned u ∧ DSM w' w.heap.size w'.heap.size u (idM 1) ∧ Below w.heap.size w w' := by
  obtain ⟨i0, hi, hz0, hz1, hz2⟩ := info_parts infoDs
  have Hq := Lib.hid (fun w => iisq_yes 1 w (by decide))
  have Hb0 := Lib.hid (fun (j : Nat) (hj : j < 2) w => ibasis 1 j w (by decide) (by decide) (by omega) (by omega))
  have HN := Lib.hid (fun (j : Nat) (hj : j < 2) => idM_get (n := 1) (by decide) (j := j) hj)
  have HNl := Lib.hid (show (idM 1).length = 2 from idM_len (by decide))
  generalize idM 1 = I at *
  go_enter Try.func90, Try.ntmps90
  go_wp2_with fail
  refine (Hq.out _).mono ?_
  rintro e w0 ⟨rfl, rfl⟩
  go_wp2_with (first | (at_make; refine wpList_make_full _ rfl _ _ 24 rfl w.heap.size 31 i0 (.slice none 0 0) 1 Try.underlying24 hi hz0 hz1 .i64 .i64 2 2 2 rfl rfl rfl rfl (by rw [hz2]; omega) (by unfold maxLen; omega) (Nat.le_refl _) ?_))
  intro w1 hown hgrow
  have hb1 : Below w.heap.size w w1 := (Below.refl _ _).grown hgrow (Nat.le_refl _) (fun k hk => by cases hk)
  have hrow1 : MRow w1 w.heap.size w1.heap.size w.heap.size (List.replicate 2 []) := by
    rcases hown.2 with ⟨h, _⟩ | ⟨g, cap, cur, hv, hb, hg, _, _, hs, ht⟩
    · cases h
    · obtain ⟨rfl, rfl⟩ : g = w.heap.size ∧ cap = 2 := by injection hv with hv _ hv2; injection hv with hv; injection hv with hv; exact ⟨hv.symm, hv2.symm⟩
      refine ⟨cur, _, hg, ?_, rows_nil (n := 2)⟩
      rw [List.length_replicate, ← made_slices 2]
      first | exact ht | simpa using ht
  rw [← HNl.out] at hrow1
  have Hb1 := Lib.hid hb1
  have Hrow1 := Lib.hid hrow1
  clear hown hgrow hb1 hrow1
  go_wp2_with fail
  go_loopg [13] 2 (fun n i wr => ∃ j : Nat, n = 2 - j ∧ j ≤ 2 ∧ i = .int .i64 j ∧ Hid (MRow wr w.heap.size wr.heap.size w.heap.size (I.take j ++ List.replicate (I.length - j) [])) ∧ Hid (Below w.heap.size w wr))
  case atStart => exact ⟨0, rfl, Nat.zero_le _, rfl, by simpa using Hrow1, Hb1⟩
  case round =>
    obtain ⟨j, rfl, hj, rfl, Hrow, Hb⟩ := hrel
    have hs := Hb.out.size
    by_cases hlt : j < 2
    · have hlt' : (j : Int) < 2 := by omega
      have Hst := Lib.hid (halfM_set (HN.out j hlt))
      have hjN : j < I.length := by have := HNl.out; omega
      have Hj := Lib.hid (fun w => Hb0.out j hlt w)
      generalize basisL 1 (j : Int) = r at *
      go_wp2_with fail
      refine (Hj.out _).mono ?_
      rintro e w2 ⟨v, rfl, hds, hb2⟩
      have hr2 := Hrow.out.block (hb2.block _ Hrow.out.lt) fun k _ _ hk => hb2.block k hk
      have f1 := fun o => hr2.free o
      obtain ⟨a9, c9, e0, -⟩ := hr2.cell (halfM_at hjN)
      have hgl := Nat.lt_of_lt_of_le Hrow.out.lt hb2.size
      have hr3 := Hrow.out.put (j := j) (by simp; omega) hds.upto hs hb2.size fun k hk => hb2.block k hk
      rw [Hst.out] at hr3
      have Hr3 := Lib.hid hr3
      have Hb2 := Lib.hid (Hb.out.trans (hb2.mono hs))
      obtain ⟨a2, cap3, rfl, _⟩ := hds
      clear hr3 hr2 hb2 Hrow Hj Hb0 HN
      go_wp2_with fail
      go_roundg (2 - (j + 1))
      case measure => omega
      case rel =>
        refine ⟨j + 1, rfl, by omega, by go_num, by simpa using Hr3, ?_⟩
        have := Hb2.out
        show Below _ _ _
        go_grown
    · obtain rfl : j = 2 := by omega
      have hrow := Hrow.out
      have HD := Lib.hid (show DSM wr w.heap.size wr.heap.size (.slice (some ⟨w.heap.size, 0, none⟩) 2 2) I from ⟨_, _, by rw [HNl.out], by rw [HNl.out]; exact Nat.le_refl _, fun _ => ⟨_, rfl, Nat.le_refl _, hrow.lt, by
        have h16 := hrow
        rw [← HNl.out, List.take_length, Nat.sub_self] at h16
        simpa using h16⟩⟩)
      clear hrow Hrow
      go_wp2_with fail
      go_ret
      exact ⟨_, rfl, HD.out, Hb.out⟩
set_option maxRecDepth 100000 in
set_option maxHeartbeats 3200000 in
theorem iident2 (w : World) :
    Calls Try.prog 90 #[.int .i64 2] w fun e w' => ∃ u, e = .returned u ∧ DSM w' w.heap.size w'.heap.size u (idM 2) ∧ Below w.heap.size w w' := by
  obtain ⟨i0, hi, hz0, hz1, hz2⟩ := info_parts infoDs
  have Hq := Lib.hid (fun w => iisq_yes 2 w (by decide))
  have Hb0 := Lib.hid (fun (j : Nat) (hj : j < 4) w => ibasis 2 j w (by decide) (by decide) (by omega) (by omega))
  have HN := Lib.hid (fun (j : Nat) (hj : j < 4) => idM_get (n := 2) (by decide) (j := j) hj)
  have HNl := Lib.hid (show (idM 2).length = 4 from idM_len (by decide))
  generalize idM 2 = I at *
  go_enter Try.func90, Try.ntmps90
  go_wp2_with fail
  refine (Hq.out _).mono ?_
  rintro e w0 ⟨rfl, rfl⟩
  go_wp2_with (first | (at_make; refine wpList_make_full _ rfl _ _ 24 rfl w.heap.size 31 i0 (.slice none 0 0) 1 Try.underlying24 hi hz0 hz1 .i64 .i64 4 4 4 rfl rfl rfl rfl (by rw [hz2]; omega) (by unfold maxLen; omega) (Nat.le_refl _) ?_))
  intro w1 hown hgrow
  have hb1 : Below w.heap.size w w1 := (Below.refl _ _).grown hgrow (Nat.le_refl _) (fun k hk => by cases hk)
  have hrow1 : MRow w1 w.heap.size w1.heap.size w.heap.size (List.replicate 4 []) := by
    rcases hown.2 with ⟨h, _⟩ | ⟨g, cap, cur, hv, hb, hg, _, _, hs, ht⟩
    · cases h
    · obtain ⟨rfl, rfl⟩ : g = w.heap.size ∧ cap = 4 := by injection hv with hv _ hv2; injection hv with hv; injection hv with hv; exact ⟨hv.symm, hv2.symm⟩
      refine ⟨cur, _, hg, ?_, rows_nil (n := 4)⟩
      rw [List.length_replicate, ← made_slices 4]
      first | exact ht | simpa using ht
  rw [← HNl.out] at hrow1
  have Hb1 := Lib.hid hb1
  have Hrow1 := Lib.hid hrow1
  clear hown hgrow hb1 hrow1
  go_wp2_with fail
  go_loopg [13] 4 (fun n i wr => ∃ j : Nat, n = 4 - j ∧ j ≤ 4 ∧ i = .int .i64 j ∧ Hid (MRow wr w.heap.size wr.heap.size w.heap.size (I.take j ++ List.replicate (I.length - j) [])) ∧ Hid (Below w.heap.size w wr))
  case atStart => exact ⟨0, rfl, Nat.zero_le _, rfl, by simpa using Hrow1, Hb1⟩
  case round =>
    obtain ⟨j, rfl, hj, rfl, Hrow, Hb⟩ := hrel
    have hs := Hb.out.size
    by_cases hlt : j < 4
    · have hlt' : (j : Int) < 4 := by omega
      have Hst := Lib.hid (halfM_set (HN.out j hlt))
      have hjN : j < I.length := by have := HNl.out; omega
      have Hj := Lib.hid (fun w => Hb0.out j hlt w)
      generalize basisL 2 (j : Int) = r at *
      go_wp2_with fail
      refine (Hj.out _).mono ?_
      rintro e w2 ⟨v, rfl, hds, hb2⟩
      have hr2 := Hrow.out.block (hb2.block _ Hrow.out.lt) fun k _ _ hk => hb2.block k hk
      have f1 := fun o => hr2.free o
      obtain ⟨a9, c9, e0, -⟩ := hr2.cell (halfM_at hjN)
      have hgl := Nat.lt_of_lt_of_le Hrow.out.lt hb2.size
      have hr3 := Hrow.out.put (j := j) (by simp; omega) hds.upto hs hb2.size fun k hk => hb2.block k hk
      rw [Hst.out] at hr3
      have Hr3 := Lib.hid hr3
      have Hb2 := Lib.hid (Hb.out.trans (hb2.mono hs))
      obtain ⟨a2, cap3, rfl, _⟩ := hds
      clear hr3 hr2 hb2 Hrow Hj Hb0 HN
      go_wp2_with fail
      go_roundg (4 - (j + 1))
      case measure => omega
      case rel =>
        refine ⟨j + 1, rfl, by omega, by go_num, by simpa using Hr3, ?_⟩
        have := Hb2.out
        show Below _ _ _
        go_grown
    · obtain rfl : j = 4 := by omega
      have hrow := Hrow.out
      have HD := Lib.hid (show DSM wr w.heap.size wr.heap.size (.slice (some ⟨w.heap.size, 0, none⟩) 4 4) I from ⟨_, _, by rw [HNl.out], by rw [HNl.out]; exact Nat.le_refl _, fun _ => ⟨_, rfl, Nat.le_refl _, hrow.lt, by
        have h16 := hrow
        rw [← HNl.out, List.take_length, Nat.sub_self] at h16
        simpa using h16⟩⟩)
      clear hrow Hrow
      go_wp2_with fail
      go_ret
      exact ⟨_, rfl, HD.out, Hb.out⟩
set_option maxRecDepth 100000 in
set_option maxHeartbeats 3200000 in
theorem iident3 (w : World) :
    Calls Try.prog 90 #[.int .i64 3] w fun e w' => ∃ u, e = .returned u ∧ DSM w' w.heap.size w'.heap.size u (idM 3) ∧ Below w.heap.size w w' := by
  obtain ⟨i0, hi, hz0, hz1, hz2⟩ := info_parts infoDs
  have Hq := Lib.hid (fun w => iisq_yes 3 w (by decide))
  have Hb0 := Lib.hid (fun (j : Nat) (hj : j < 8) w => ibasis 3 j w (by decide) (by decide) (by omega) (by omega))
  have HN := Lib.hid (fun (j : Nat) (hj : j < 8) => idM_get (n := 3) (by decide) (j := j) hj)
  have HNl := Lib.hid (show (idM 3).length = 8 from idM_len (by decide))
  generalize idM 3 = I at *
  go_enter Try.func90, Try.ntmps90
  go_wp2_with fail
  refine (Hq.out _).mono ?_
  rintro e w0 ⟨rfl, rfl⟩
  go_wp2_with (first | (at_make; refine wpList_make_full _ rfl _ _ 24 rfl w.heap.size 31 i0 (.slice none 0 0) 1 Try.underlying24 hi hz0 hz1 .i64 .i64 8 8 8 rfl rfl rfl rfl (by rw [hz2]; omega) (by unfold maxLen; omega) (Nat.le_refl _) ?_))
  intro w1 hown hgrow
  have hb1 : Below w.heap.size w w1 := (Below.refl _ _).grown hgrow (Nat.le_refl _) (fun k hk => by cases hk)
  have hrow1 : MRow w1 w.heap.size w1.heap.size w.heap.size (List.replicate 8 []) := by
    rcases hown.2 with ⟨h, _⟩ | ⟨g, cap, cur, hv, hb, hg, _, _, hs, ht⟩
    · cases h
    · obtain ⟨rfl, rfl⟩ : g = w.heap.size ∧ cap = 8 := by injection hv with hv _ hv2; injection hv with hv; injection hv with hv; exact ⟨hv.symm, hv2.symm⟩
      refine ⟨cur, _, hg, ?_, rows_nil (n := 8)⟩
      rw [List.length_replicate, ← made_slices 8]
      first | exact ht | simpa using ht
  rw [← HNl.out] at hrow1
  have Hb1 := Lib.hid hb1
  have Hrow1 := Lib.hid hrow1
  clear hown hgrow hb1 hrow1
  go_wp2_with fail
  go_loopg [13] 8 (fun n i wr => ∃ j : Nat, n = 8 - j ∧ j ≤ 8 ∧ i = .int .i64 j ∧ Hid (MRow wr w.heap.size wr.heap.size w.heap.size (I.take j ++ List.replicate (I.length - j) [])) ∧ Hid (Below w.heap.size w wr))
  case atStart => exact ⟨0, rfl, Nat.zero_le _, rfl, by simpa using Hrow1, Hb1⟩
  case round =>
    obtain ⟨j, rfl, hj, rfl, Hrow, Hb⟩ := hrel
    have hs := Hb.out.size
    by_cases hlt : j < 8
    · have hlt' : (j : Int) < 8 := by omega
      have Hst := Lib.hid (halfM_set (HN.out j hlt))
      have hjN : j < I.length := by have := HNl.out; omega
      have Hj := Lib.hid (fun w => Hb0.out j hlt w)
      generalize basisL 3 (j : Int) = r at *
      go_wp2_with fail
      refine (Hj.out _).mono ?_
      rintro e w2 ⟨v, rfl, hds, hb2⟩
      have hr2 := Hrow.out.block (hb2.block _ Hrow.out.lt) fun k _ _ hk => hb2.block k hk
      have f1 := fun o => hr2.free o
      obtain ⟨a9, c9, e0, -⟩ := hr2.cell (halfM_at hjN)
      have hgl := Nat.lt_of_lt_of_le Hrow.out.lt hb2.size
      have hr3 := Hrow.out.put (j := j) (by simp; omega) hds.upto hs hb2.size fun k hk => hb2.block k hk
      rw [Hst.out] at hr3
      have Hr3 := Lib.hid hr3
      have Hb2 := Lib.hid (Hb.out.trans (hb2.mono hs))
      obtain ⟨a2, cap3, rfl, _⟩ := hds
      clear hr3 hr2 hb2 Hrow Hj Hb0 HN
      go_wp2_with fail
      go_roundg (8 - (j + 1))
      case measure => omega
      case rel =>
        refine ⟨j + 1, rfl, by omega, by go_num, by simpa using Hr3, ?_⟩
        have := Hb2.out
        show Below _ _ _
        go_grown
    · obtain rfl : j = 8 := by omega
      have hrow := Hrow.out
      have HD := Lib.hid (show DSM wr w.heap.size wr.heap.size (.slice (some ⟨w.heap.size, 0, none⟩) 8 8) I from ⟨_, _, by rw [HNl.out], by rw [HNl.out]; exact Nat.le_refl _, fun _ => ⟨_, rfl, Nat.le_refl _, hrow.lt, by
        have h16 := hrow
        rw [← HNl.out, List.take_length, Nat.sub_self] at h16
        simpa using h16⟩⟩)
      clear hrow Hrow
      go_wp2_with fail
      go_ret
      exact ⟨_, rfl, HD.out, Hb.out⟩
set_option maxRecDepth 100000 in
set_option maxHeartbeats 3200000 in
theorem iident4 (w : World) :
    Calls Try.prog 90 #[.int .i64 4] w fun e w' => ∃ u, e = .returned u ∧ DSM w' w.heap.size w'.heap.size u (idM 4) ∧ Below w.heap.size w w' := by
  obtain ⟨i0, hi, hz0, hz1, hz2⟩ := info_parts infoDs
  have Hq := Lib.hid (fun w => iisq_yes 4 w (by decide))
  have Hb0 := Lib.hid (fun (j : Nat) (hj : j < 16) w => ibasis 4 j w (by decide) (by decide) (by omega) (by omega))
  have HN := Lib.hid (fun (j : Nat) (hj : j < 16) => idM_get (n := 4) (by decide) (j := j) hj)
  have HNl := Lib.hid (show (idM 4).length = 16 from idM_len (by decide))
  generalize idM 4 = I at *
  go_enter Try.func90, Try.ntmps90
  go_wp2_with fail
  refine (Hq.out _).mono ?_
  rintro e w0 ⟨rfl, rfl⟩
  go_wp2_with (first | (at_make; refine wpList_make_full _ rfl _ _ 24 rfl w.heap.size 31 i0 (.slice none 0 0) 1 Try.underlying24 hi hz0 hz1 .i64 .i64 16 16 16 rfl rfl rfl rfl (by rw [hz2]; omega) (by unfold maxLen; omega) (Nat.le_refl _) ?_))
  intro w1 hown hgrow
  have hb1 : Below w.heap.size w w1 := (Below.refl _ _).grown hgrow (Nat.le_refl _) (fun k hk => by cases hk)
  have hrow1 : MRow w1 w.heap.size w1.heap.size w.heap.size (List.replicate 16 []) := by
    rcases hown.2 with ⟨h, _⟩ | ⟨g, cap, cur, hv, hb, hg, _, _, hs, ht⟩
    · cases h
    · obtain ⟨rfl, rfl⟩ : g = w.heap.size ∧ cap = 16 := by injection hv with hv _ hv2; injection hv with hv; injection hv with hv; exact ⟨hv.symm, hv2.symm⟩
      refine ⟨cur, _, hg, ?_, rows_nil (n := 16)⟩
      rw [List.length_replicate, ← made_slices 16]
      first | exact ht | simpa using ht
  rw [← HNl.out] at hrow1
  have Hb1 := Lib.hid hb1
  have Hrow1 := Lib.hid hrow1
  clear hown hgrow hb1 hrow1
  go_wp2_with fail
  go_loopg [13] 16 (fun n i wr => ∃ j : Nat, n = 16 - j ∧ j ≤ 16 ∧ i = .int .i64 j ∧ Hid (MRow wr w.heap.size wr.heap.size w.heap.size (I.take j ++ List.replicate (I.length - j) [])) ∧ Hid (Below w.heap.size w wr))
  case atStart => exact ⟨0, rfl, Nat.zero_le _, rfl, by simpa using Hrow1, Hb1⟩
  case round =>
    obtain ⟨j, rfl, hj, rfl, Hrow, Hb⟩ := hrel
    have hs := Hb.out.size
    by_cases hlt : j < 16
    · have hlt' : (j : Int) < 16 := by omega
      have Hst := Lib.hid (halfM_set (HN.out j hlt))
      have hjN : j < I.length := by have := HNl.out; omega
      have Hj := Lib.hid (fun w => Hb0.out j hlt w)
      generalize basisL 4 (j : Int) = r at *
      go_wp2_with fail
      refine (Hj.out _).mono ?_
      rintro e w2 ⟨v, rfl, hds, hb2⟩
      have hr2 := Hrow.out.block (hb2.block _ Hrow.out.lt) fun k _ _ hk => hb2.block k hk
      have f1 := fun o => hr2.free o
      obtain ⟨a9, c9, e0, -⟩ := hr2.cell (halfM_at hjN)
      have hgl := Nat.lt_of_lt_of_le Hrow.out.lt hb2.size
      have hr3 := Hrow.out.put (j := j) (by simp; omega) hds.upto hs hb2.size fun k hk => hb2.block k hk
      rw [Hst.out] at hr3
      have Hr3 := Lib.hid hr3
      have Hb2 := Lib.hid (Hb.out.trans (hb2.mono hs))
      obtain ⟨a2, cap3, rfl, _⟩ := hds
      clear hr3 hr2 hb2 Hrow Hj Hb0 HN
      go_wp2_with fail
      go_roundg (16 - (j + 1))
      case measure => omega
      case rel =>
        refine ⟨j + 1, rfl, by omega, by go_num, by simpa using Hr3, ?_⟩
        have := Hb2.out
        show Below _ _ _
        go_grown
    · obtain rfl : j = 16 := by omega
      have hrow := Hrow.out
      have HD := Lib.hid (show DSM wr w.heap.size wr.heap.size (.slice (some ⟨w.heap.size, 0, none⟩) 16 16) I from ⟨_, _, by rw [HNl.out], by rw [HNl.out]; exact Nat.le_refl _, fun _ => ⟨_, rfl, Nat.le_refl _, hrow.lt, by
        have h16 := hrow
        rw [← HNl.out, List.take_length, Nat.sub_self] at h16
        simpa using h16⟩⟩)
      clear hrow Hrow
      go_wp2_with fail
      go_ret
      exact ⟨_, rfl, HD.out, Hb.out⟩
theorem iident (n : Int) (w : World) (n0 : -9223372036854775808 ≤ n) (n1 : n ≤ 9223372036854775807) :
    Calls Try.prog 90 #[.int .i64 n] w fun e w' => ∃ v, e = .returned v ∧ DSM w' w.heap.size w'.heap.size v (idM n) ∧ Below w.heap.size w w' := by
  by_cases h : 1 ≤ n ∧ n ≤ 4
  · rcases (show n = 1 ∨ n = 2 ∨ n = 3 ∨ n = 4 by omega) with rfl | rfl | rfl | rfl
    · exact iident1 w
    · exact iident2 w
    · exact iident3 w
    · exact iident4 w
  · rw [idM_no h]
    have Hq := Lib.hid (fun w => iisq_no n w h n0 n1)
    clear h n0 n1
    go_enter Try.func90, Try.ntmps90
    go_wp2_with fail
    refine (Hq.out _).mono ?_
    rintro e w0 ⟨rfl, rfl⟩
    go_wp2_with fail
    go_ret
    exact ⟨_, rfl, DSM.nil, Below.refl _ _⟩
end Go.Proofs.Ytkcpemkahkkcmaa
namespace Go.Proofs.Ytkcpemkahkkcmaa
open Go.RowKit
attribute [local irreducible] World.cell?
end Go.Proofs.Ytkcpemkahkkcmaa
