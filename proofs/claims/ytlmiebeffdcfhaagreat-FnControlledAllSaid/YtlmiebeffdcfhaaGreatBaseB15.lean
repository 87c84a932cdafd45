/- BaseB15: several of our texts in one: MtQ MtC MtD AdN MtW MtA MtM MtI MtU. -/
import Derived.Test.YtlmiebeffdcfhaaGreatBaseB08
import Derived.Test.YtlmiebeffdcfhaaGreatBaseC06
import Derived.Test.YtlmiebeffdcfhaaGreatBaseB06
import Derived.Test.YtlmiebeffdcfhaaGreatBaseB12
import Derived.Test.YtlmiebeffdcfhaaGreatDwN
namespace Go.Proofs.YtlmiebeffdcfhaaGreat
open Go.RowKit
attribute [local irreducible] World.cell?
theorem eq_takeM {a b : List (List Dw)} {j : Nat} {x y : List Dw} (hx : a[j]? = some x) (hy : b[j]? = some y) (h : a.take j = b.take j) (hxy : x = y) : a.take (j + 1) = b.take (j + 1) := by
  rw [List.take_add_one, List.take_add_one, h, hx, hy, hxy]
set_option maxRecDepth 100000 in
set_option maxHeartbeats 1600000 in
theorem sequalMt (B C D E : Nat) (v u : Value) (M N : List (List Dw)) (w : World) (hv : DSM w B C v M) (hu : DSM w D E u N) (hn : M.length ≤ 1048576) (_ : N.length ≤ 1048576) (hm : amps M ≤ 1048576) (hm' : amps N ≤ 1048576) :
    Calls Tryz.prog 14 #[v, u] w fun e w' => e = .returned (.bool (decide (M = N))) ∧ Below w.heap.size w w' := by
  obtain ⟨a, cap, rfl, hcap, hr⟩ := hv
  obtain ⟨a', cap', rfl, hcap', hr'⟩ := hu
  have Hr := Lib.hid hr
  have Hr' := Lib.hid hr'
  clear hr hr'
  by_cases hl : M.length = N.length
  · obtain ⟨R, hR⟩ : ∃ R, R = decide (M = N) := ⟨_, rfl⟩
    rw [← hR]
    have HR := Lib.hid hR
    clear hR
    rw [← hl] at Hr' hcap' ⊢
    have Hl := Lib.hid hl
    clear hl
    have hd2 : ((M.length : Int) != M.length) = false := by simp
    go_enter Tryz.func14, Tryz.ntmps14
    go_wp2_with fail
    go_loopg [5] M.length (fun k i wr => ∃ j : Nat, k = M.length - j ∧ j ≤ M.length ∧ i = .int .i64 j ∧ Hid (M.take j = N.take j) ∧ Hid (Below w.heap.size w wr))
    case atStart => exact ⟨0, rfl, Nat.zero_le _, rfl, rfl, Below.refl _ _⟩
    case round =>
      obtain ⟨j, rfl, hj, rfl, Heq, Hb⟩ := hrel
      by_cases hlt : j < M.length
      · obtain ⟨g, rfl, _, _, hrow⟩ := Hr.out (by omega)
        obtain ⟨g', rfl, _, _, hrow'⟩ := Hr'.out (by omega)
        obtain ⟨x, hx⟩ : ∃ r, M[j]? = some r := ⟨M[j], List.getElem?_eq_getElem hlt⟩
        obtain ⟨y, hy⟩ : ∃ r, N[j]? = some r := ⟨N[j]'(by have := Hl.out; omega), List.getElem?_eq_getElem _⟩
        have r1 := hrow.block (Hb.out.block _ hrow.lt) fun k _ _ hk => Hb.out.block k hk
        have r2 := hrow'.block (Hb.out.block _ hrow'.lt) fun k _ _ hk => Hb.out.block k hk
        obtain ⟨p, pc, c0, hd1⟩ := r1.cell hx
        obtain ⟨q, qc, c1, hd2⟩ := r2.cell hy
        have hgl := r1.lt
        have hgl' := r2.lt
        have Hx := Lib.hid hx
        have Hy := Lib.hid hy
        have He := Lib.hid (fun W (h1 : Hid (DSl W B (.slice p x.length pc) x)) (h2 : Hid (DSl W D (.slice q y.length qc) y)) => sequalSt B D (.slice p x.length pc) (.slice q y.length qc) x y W h1.out h2.out (by have := amps_row hx; omega) (by have := amps_row hy; omega))
        have Hd1 := Lib.hid hd1.dsl
        have Hd2 := Lib.hid hd2.dsl
        have hS : SP2 w g g' j B D (.slice p x.length pc) (.slice q y.length qc) x y wr := ⟨c0, c1, hgl, hgl', Hd1, Hd2, Hb.out⟩
        clear hd1 hd2 r1 r2 hrow hrow' hx hy
        by_cases hxy : x = y
        · rw [decide_eq_true hxy] at He
          have Hxy := Lib.hid hxy
          clear hxy
          go_upto_region 6 with fail
          go_region_held3 (fun w' => w'.cell? ⟨g, j, none⟩ = some (.slice p x.length pc) ∧ w'.cell? ⟨g', j, none⟩ = some (.slice q y.length qc) ∧ g < w'.heap.size ∧ g' < w'.heap.size ∧ Hid (DSl w' B (.slice p x.length pc) x) ∧ Hid (DSl w' D (.slice q y.length qc) y) ∧ Below w.heap.size w w') (first | (show SP2 w g g' j B D (.slice p x.length pc) (.slice q y.length qc) x y _; (with_reducible exact hS.drew)) | (show SP2 w g g' j B D (.slice p x.length pc) (.slice q y.length qc) x y _; (with_reducible refine SP2.below ?_ hbR); first | assumption | exact ⟨by assumption, by assumption, by assumption, by assumption, by assumption, by assumption, by assumption⟩))
            (first | (go_at_call 45; (with_reducible refine (He.out _ hS.drew.one hS.drew.two).mono ?_); rintro e wR ⟨rfl, hbR⟩))
          have Hb2 := Lib.hid (below_up Hb.out.drew hbR Hb.out.size)
          go_wp2_with fail
          go_roundg (M.length - (j + 1))
          case measure => omega
          case rel => exact ⟨j + 1, rfl, by omega, by go_num, Lib.hid (eq_takeM Hx.out Hy.out Heq.out Hxy.out), Hb2⟩
        · rw [decide_eq_false hxy] at He
          have hF : M ≠ N := fun h => hxy (by have h1 := Hx.out; rw [h, Hy.out] at h1; injection h1 with h1; exact h1.symm)
          obtain rfl : R = false := HR.out.trans (decide_eq_false hF)
          clear hF hxy
          go_upto_region 6 with fail
          go_region_held3 (fun w' => w'.cell? ⟨g, j, none⟩ = some (.slice p x.length pc) ∧ w'.cell? ⟨g', j, none⟩ = some (.slice q y.length qc) ∧ g < w'.heap.size ∧ g' < w'.heap.size ∧ Hid (DSl w' B (.slice p x.length pc) x) ∧ Hid (DSl w' D (.slice q y.length qc) y) ∧ Below w.heap.size w w') (first | (show SP2 w g g' j B D (.slice p x.length pc) (.slice q y.length qc) x y _; (with_reducible exact hS.drew)) | (show SP2 w g g' j B D (.slice p x.length pc) (.slice q y.length qc) x y _; (with_reducible refine SP2.below ?_ hbR); first | assumption | exact ⟨by assumption, by assumption, by assumption, by assumption, by assumption, by assumption, by assumption⟩))
            (first | (go_at_call 45; (with_reducible refine (He.out _ hS.drew.one hS.drew.two).mono ?_); rintro e wR ⟨rfl, hbR⟩))
          have Hb2 := Lib.hid (below_up Hb.out.drew hbR Hb.out.size)
          go_wp2_with fail
          go_ret
          exact ⟨rfl, Hb2.out⟩
      · obtain rfl : j = M.length := by omega
        have heq := Heq.out
        rw [List.take_length, Hl.out, List.take_length] at heq
        obtain rfl : R = true := HR.out.trans (decide_eq_true heq)
        go_wp2_with fail
        go_ret
        exact ⟨rfl, Hb.out⟩
  · rw [decide_eq_false (fun h => hl (by rw [h]))]
    have hd2 : ((M.length : Int) != N.length) = true := by simp; omega
    go_enter Tryz.func14, Tryz.ntmps14
    go_wp2_with fail
    go_ret
    exact ⟨rfl, Below.refl _ _⟩
end Go.Proofs.YtlmiebeffdcfhaaGreat
namespace Go.Proofs.YtlmiebeffdcfhaaGreat
open Go.RowKit
theorem col_step {M : List (List Dw)} {j k : Nat} {r : List Dw} {x : Dw} (hr : M[j]? = some r) (hx : r[k]? = some x) : flat ((col M k).take j) ++ fl x = flat ((col M k).take (j + 1)) := by
  have e : (col M k)[j]? = some x := by
    rw [col, List.getElem?_map, hr]
    simp [List.getD, hx]
  rw [List.take_add_one, e, flat_app]
  simp [flat]
attribute [local irreducible] World.cell?
set_option maxRecDepth 100000 in
set_option maxHeartbeats 1600000 in
theorem scolumn (B C : Nat) (v : Value) (M : List (List Dw)) (k : Nat) (w : World) (hv : DSM w B C v M) (hk : ∀ r ∈ M, k < r.length) (hn : M.length ≤ 1048576) (hk2 : k ≤ 1048576) :
    Calls Tryz.prog 76 #[v, .int .i64 k] w fun e w' => ∃ u, e = .returned u ∧ DSl w' w.heap.size u (col M k) ∧ Below w.heap.size w w' := by
  obtain ⟨i0, hi, hz0, hz1, hz2⟩ := info_parts infoDw
  obtain ⟨a, cap, rfl, hcap, hr⟩ := hv
  have Hr := Lib.hid hr
  clear hr
  have Hk := Lib.hid hk
  clear hk
  go_enter Tryz.func76, Tryz.ntmps76
  go_wp2_with fail
  go_loopg [5, 6] M.length (fun n out i wr => ∃ j : Nat, n = M.length - j ∧ j ≤ M.length ∧ i = .int .i64 j ∧ Hid (wr.ownsRow w.heap.size 70 5 out j (flat ((col M k).take j))) ∧ Hid (Below w.heap.size w wr))
  case atStart => exact ⟨0, rfl, Nat.zero_le _, rfl, own_new rfl, (Below.refl _ _).alloc (Nat.le_refl _) _⟩
  case round =>
    obtain ⟨j, rfl, hj, rfl, Hown, Hb⟩ := hrel
    by_cases hlt : j < M.length
    · obtain ⟨g, rfl, _, _, hrow⟩ := Hr.out (by omega)
      obtain ⟨r, hr⟩ : ∃ r, M[j]? = some r := ⟨M[j], List.getElem?_eq_getElem hlt⟩
      have hkr := Hk.out r (List.mem_of_getElem? hr)
      obtain ⟨x, hx⟩ : ∃ x, r[k]? = some x := ⟨r[k], List.getElem?_eq_getElem hkr⟩
      have r1 := hrow.block (Hb.out.block _ hrow.lt) fun k _ _ hk => Hb.out.block k hk
      obtain ⟨p, pc, c0, hd1⟩ := r1.cell hr
      obtain ⟨p', pc', he, hpc, hd2⟩ := hd1
      obtain ⟨g2, hp, _, _, hrow2⟩ := hd2 (by omega)
      injection he with he1 he2 he3
      subst he1 he3 hp
      obtain ⟨d0, d1, d2, d3, d4⟩ := hrow2.cells hx
      have Hstep := Lib.hid (col_step hr hx)
      have hgl := r1.lt
      have hgl2 := hrow2.lt
      have hs := Hb.out.size
      clear hd2 r1 hrow hrow2 hr hx he2
      go_wp2_with (first
        | (at_builtin; refine wpList_append_own _ rfl _ _ 59 rfl w.heap.size 70 i0 (.agg #[.int .i64 0, .int .i64 0, .int .i64 0, .int .i64 0, .int .i64 0]) 5 40 Tryz.underlying59 hi hz0 hz1 hz2 rfl (by decide) _ _ _ rfl (Hown.out.alloc _) ⟨wr.heap.size, 0, none⟩ 1 1 (fl x) rfl rfl (fl_new _ _ _) (fl_plain _) ?d3 ?d4 ?d5 ?_))
      case d3 => unfold maxLen; omega
      case d4 => omega
      case d5 => first | omega | (simp; omega) | (simp; omega)
      intro v' w4 hown' hgrow _
      have HB4 := Lib.hid ((Hb.out.alloc hs (.cells #[.int .i64 x.n.a, .int .i64 x.n.b, .int .i64 x.n.c, .int .i64 x.n.d, .int .i64 x.e] 70)).grown hgrow (by simp; omega) (fun q hq => by have := Hown.out.lt q hq; omega))
      rw [Hstep.out] at hown'
      have Hown4 := Lib.hid hown'
      clear hown' hgrow
      go_wp2_with fail
      go_roundg (M.length - (j + 1))
      case measure => omega
      case rel => exact ⟨j + 1, rfl, by omega, by go_num, Hown4.out, HB4⟩
    · obtain rfl : j = M.length := by omega
      have hown := Hown.out
      rw [show M.length = (col M k).length from (col_len M k).symm, List.take_length] at hown
      have Hd := Lib.hid (DSl.of_own hown)
      clear hown
      go_wp2_with fail
      go_ret
      exact ⟨_, rfl, Hd.out, Hb.out⟩
theorem colsM_at {L : List (List Dw)} {j : Nat} (hj : j < L.length) : (colsM L).take (j + 1) = (colsM L).take j ++ [col L j] := by
  rw [List.take_add_one, colsM, List.getElem?_map, List.getElem?_range hj]
  rfl
set_option maxRecDepth 100000 in
set_option maxHeartbeats 1600000 in
theorem scolumns (B C : Nat) (v : Value) (L : List (List Dw)) (w : World) (hv : DSM w B C v L) (hk : ∀ r ∈ L, L.length ≤ r.length) (hn : L.length ≤ 1048576) :
    Calls Tryz.prog 37 #[v] w fun e w' => ∃ u, e = .returned u ∧ DSM w' w.heap.size w'.heap.size u (colsM L) ∧ Below w.heap.size w w' := by
  obtain ⟨i0, hi, hz0, hz1, hz2⟩ := info_parts infoDs
  have Hv := Lib.hid hv
  have Hk := Lib.hid hk
  clear hk
  have Hc := Lib.hid (fun (j : Nat) (hj : j < L.length) W (h : DSM W B C v L) => scolumn B C v L j W h (fun r hr => Nat.lt_of_lt_of_le hj (Hk.out r hr)) hn (by omega))
  obtain ⟨a, cap, rfl, hcap, -⟩ := hv
  clear Hk
  go_enter Tryz.func37, Tryz.ntmps37
  go_wp2_with fail
  go_loopg [3, 4] L.length (fun n out i wr => ∃ (j : Nat) (vs : List Value), n = L.length - j ∧ j ≤ L.length ∧ i = .int .i64 j ∧ Hid (wr.ownsRow w.heap.size 59 1 out j vs) ∧ Hid (RwS wr w.heap.size wr.heap.size vs ((colsM L).take j)) ∧ Hid (Below w.heap.size w wr))
  case atStart => exact ⟨0, [], rfl, Nat.zero_le _, rfl, ownM_new rfl, RwS.nil, (Below.refl _ _).alloc (Nat.le_refl _) _⟩
  case round =>
    obtain ⟨j, vs, rfl, hj, rfl, Hown, Hrows, Hb⟩ := hrel
    by_cases hlt : j < L.length
    · have Hv1 := Lib.hid (Hv.out.block fun k _ _ hk => Hb.out.block k hk)
      have Hc1 := Lib.hid (Hc.out j hlt wr Hv1.out)
      clear Hv1
      have hs := Hb.out.size
      go_wp2_with fail
      refine (Hc1.out).mono ?_
      rintro e w2 ⟨u, rfl, hd, hb2⟩
      have Hown2 := Lib.hid (row_below Hown.out hb2)
      have Hrows2 := Lib.hid (Hrows.out.snoc hd.upto hs hb2.size fun k _ _ hk => hb2.block k hk)
      have Hb2 := Lib.hid (Hb.out.trans (hb2.mono hs))
      have hs2 := Hb2.out.size
      obtain ⟨p, pc, rfl, -, -⟩ := hd
      clear hb2 Hown Hrows Hb Hc1
      go_wp2_with (first
        | (at_builtin; refine wpList_append_own _ rfl _ _ 32 rfl w.heap.size 59 i0 (.slice none 0 0) 1 24 Tryz.underlying32 hi hz0 hz1 hz2 rfl (by decide) _ _ _ rfl (Hown2.out.alloc _) ⟨w2.heap.size, 0, none⟩ 1 1 [.slice p (col L j).length pc] rfl rfl (slice_new _ _ _) (by intro u hu; simp at hu; subst hu; rfl) ?d3 ?d4 ?d5 ?_))
      case d3 => unfold maxLen; omega
      case d4 => omega
      case d5 => first | omega | (simp; omega)
      intro v' w4 hown' hgrow _
      have HB4 := Lib.hid ((Hb2.out.alloc hs2 (.cells #[.slice p (col L j).length pc] 59)).grown hgrow (by simp; omega) (fun q hq => by have := Hown2.out.lt q hq; omega))
      have Hrows4 := Lib.hid (((Hrows2.out.block fun k _ _ hk => Below.heap_alloc _ _ _ hk).grown (Hown2.out.alloc _) hgrow).upto)
      have Hown4 := Lib.hid hown'
      clear hown' hgrow
      go_wp2_with fail
      go_roundg (L.length - (j + 1))
      case measure => omega
      case rel => exact ⟨j + 1, _, rfl, by omega, by go_num, Hown4.out, by rw [colsM_at hlt]; exact Hrows4, HB4⟩
    · obtain rfl : j = L.length := by omega
      have hown := Hown.out
      have hrows := Hrows.out
      rw [show L.length = (colsM L).length from (colsM_len L).symm] at hown hrows
      rw [List.take_length] at hrows
      have Hd := Lib.hid (DSM.of_own hown hrows (Nat.le_refl _))
      clear hown hrows
      go_wp2_with fail
      go_ret
      exact ⟨_, rfl, Hd.out, Hb.out⟩
end Go.Proofs.YtlmiebeffdcfhaaGreat
namespace Go.Proofs.YtlmiebeffdcfhaaGreat
open Go.RowKit
attribute [local irreducible] World.cell?
end Go.Proofs.YtlmiebeffdcfhaaGreat
namespace Go.Proofs.YtlmiebeffdcfhaaGreat
end Go.Proofs.YtlmiebeffdcfhaaGreat
namespace Go.Proofs.YtlmiebeffdcfhaaGreat
open Go.RowKit
attribute [local irreducible] World.cell?
end Go.Proofs.YtlmiebeffdcfhaaGreat
namespace Go.Proofs.YtlmiebeffdcfhaaGreat
open Go.RowKit
attribute [local irreducible] World.cell?
end Go.Proofs.YtlmiebeffdcfhaaGreat
namespace Go.Proofs.YtlmiebeffdcfhaaGreat
open Go.RowKit
attribute [local irreducible] World.cell?
end Go.Proofs.YtlmiebeffdcfhaaGreat
namespace Go.Proofs.YtlmiebeffdcfhaaGreat
open Go.RowKit
theorem idM_yes {n : Int} (h : 1 ≤ n ∧ n ≤ 4) : idM n = (List.range (2 ^ n.toNat)).map fun (i : Nat) => basisL n (i : Int) := if_pos h
theorem idM_no {n : Int} (h : ¬ (1 ≤ n ∧ n ≤ 4)) : idM n = [] := if_neg h
theorem idM_len {n : Int} (h : 1 ≤ n ∧ n ≤ 4) : (idM n).length = 2 ^ n.toNat := by rw [idM_yes h, List.length_map, List.length_range]
attribute [local irreducible] World.cell?
end Go.Proofs.YtlmiebeffdcfhaaGreat
namespace Go.Proofs.YtlmiebeffdcfhaaGreat
open Go.RowKit
theorem basisL_len (n i : Int) : (basisL n i).length ≤ 16 := by
  unfold basisL
  split
  · rename_i h
    rw [List.length_set, List.length_replicate]
    rcases (show n = 1 ∨ n = 2 ∨ n = 3 ∨ n = 4 by omega) with rfl | rfl | rfl | rfl <;> decide
  · exact Nat.zero_le _
theorem amps_le16 : ∀ {M : List (List Dw)}, (∀ r ∈ M, r.length ≤ 16) → amps M ≤ M.length * 16
  | [], _ => by simp [amps]
  | r :: M, h => by
    have h1 := amps_le16 (M := M) fun s hs => h s (List.mem_cons_of_mem _ hs)
    have h2 := h r (List.mem_cons_self ..)
    unfold amps at *
    rw [List.map_cons, List.sum_cons, List.length_cons, Nat.succ_mul]
    omega
theorem idM_amps (n : Int) : (idM n).length ≤ 16 ∧ amps (idM n) ≤ 256 := by
  by_cases h : 1 ≤ n ∧ n ≤ 4
  · have hl := idM_len h
    have h16 : 2 ^ n.toNat ≤ 16 := by rcases (show n = 1 ∨ n = 2 ∨ n = 3 ∨ n = 4 by omega) with rfl | rfl | rfl | rfl <;> decide
    have h2 := amps_le16 (M := idM n) fun r hr => by
      rw [idM_yes h] at hr
      obtain ⟨i, _, rfl⟩ := List.mem_map.1 hr
      exact basisL_len n _
    exact ⟨by omega, by omega⟩
  · rw [idM_no h]; exact ⟨by decide, by decide⟩
attribute [local irreducible] World.cell?
end Go.Proofs.YtlmiebeffdcfhaaGreat
