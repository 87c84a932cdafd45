/- BaseB15: several of our texts in one: MtQ MtC MtD AdN MtW MtA MtM MtI MtU. -/
import Derived.Test.YtlmiebeffdcfhaaGreatUBaseB08
import Derived.Test.YtlmiebeffdcfhaaGreatUBaseC06
import Derived.Test.YtlmiebeffdcfhaaGreatUBaseB06
import Derived.Test.YtlmiebeffdcfhaaGreatUBaseB12
import Derived.Test.YtlmiebeffdcfhaaGreatUDwN
import Derived.Test.YtlmiebeffdcfhaaGreatUBaseB18
namespace Go.Proofs.YtlmiebeffdcfhaaGreat
open Go.RowKit
attribute [local irreducible] World.cell?
set_option maxRecDepth 100000 in
set_option maxHeartbeats 1600000 in
theorem svalidMt (B C : Nat) (v : Value) (M : List (List Dw)) (w : World) (hv : DSM w B C v M) (hn : M.length ≤ 1048576) (hm : amps M ≤ 1048576) :
    Calls Tryz.prog 53 #[v] w fun e w' => e = .returned (.bool (mtB M)) ∧ Below w.heap.size w w' := by
  obtain ⟨a, cap, rfl, hcap, hr⟩ := hv
  have Hr := Lib.hid hr
  clear hr
  obtain ⟨R, hR⟩ : ∃ R, R = mtB M := ⟨_, rfl⟩
  rw [← hR]
  have HR := Lib.hid hR
  clear hR
  go_enter Tryz.func53, Tryz.ntmps53
  go_wp2_with fail
  go_loopg [3] M.length (fun k i wr => ∃ j : Nat, k = M.length - j ∧ j ≤ M.length ∧ i = .int .i64 j ∧ Hid ((M.take j).all (fun r => decide (r.length = M.length) && stB r) = true) ∧ Hid (Below w.heap.size w wr))
  case atStart => exact ⟨0, rfl, Nat.zero_le _, rfl, rfl, Below.refl _ _⟩
  case round =>
    obtain ⟨j, rfl, hj, rfl, Hall, Hb⟩ := hrel
    by_cases hlt : j < M.length
    · obtain ⟨g, rfl, _, _, hrow⟩ := Hr.out (by omega)
      obtain ⟨r, hr⟩ : ∃ r, M[j]? = some r := ⟨M[j], List.getElem?_eq_getElem hlt⟩
      have r1 := hrow.block (Hb.out.block _ hrow.lt) fun k _ _ hk => Hb.out.block k hk
      obtain ⟨p, pc, c0, hd1⟩ := r1.cell hr
      have Hd1 := Lib.hid hd1.dsl
      have Hat := Lib.hid (all_take (p := fun r => decide (r.length = M.length) && stB r) hr Hall.out)
      have Hno := Lib.hid (fun h => all_no (p := fun r => decide (r.length = M.length) && stB r) hr h)
      have He := Lib.hid (fun W (h1 : DSl W B (.slice p r.length pc) r) => svalidSt B (.slice p r.length pc) r W h1 (by have := amps_row hr; omega))
      have hrl := amps_row hr
      clear hd1 r1 hrow hr
      by_cases hlen : r.length = M.length
      · rw [hlen] at c0 He Hd1
        have Hlen := Lib.hid hlen
        clear hlen hrl
        have hd2 : ((M.length : Int) != M.length) = false := by simp
        cases hs : stB r with
        | false =>
          have hS : mtB M = false := by unfold mtB; rw [Hno.out (by rw [hs]; simp)]; simp
          obtain rfl : R = false := HR.out.trans hS
          rw [hs] at He
          go_wp2_with fail
          refine (He.out _ Hd1.out).mono ?_
          rintro e w2 ⟨rfl, hb2⟩
          have Hb2 := Lib.hid (below_up Hb.out hb2 Hb.out.size)
          clear hb2
          go_wp2_with fail
          go_ret
          exact ⟨rfl, Hb2.out⟩
        | true =>
          rw [hs] at He
          go_wp2_with fail
          refine (He.out _ Hd1.out).mono ?_
          rintro e w2 ⟨rfl, hb2⟩
          have Hb2 := Lib.hid (below_up Hb.out hb2 Hb.out.size)
          clear hb2
          go_wp2_with fail
          go_roundg (M.length - (j + 1))
          case measure => omega
          case rel => exact ⟨j + 1, rfl, by omega, by go_num, Lib.hid (by rw [Hat.out, hs, decide_eq_true Hlen.out]; rfl), Hb2⟩
      · have hS : mtB M = false := by unfold mtB; rw [Hno.out (by rw [decide_eq_false hlen]; rfl)]; simp
        obtain rfl : R = false := HR.out.trans hS
        have hd : ((r.length : Int) != (M.length : Int)) = true := by simp; omega
        go_wp2_with fail
        go_ret
        exact ⟨rfl, Hb.out⟩
    · obtain rfl : j = M.length := by omega
      have hall := Hall.out
      rw [List.take_length] at hall
      have hS : mtB M = decide (0 < M.length) := by unfold mtB; rw [hall, Bool.and_true]
      by_cases h0 : 0 < M.length
      · obtain rfl : R = true := HR.out.trans (hS.trans (decide_eq_true h0))
        go_wp2_with fail
        go_returns
        exact ⟨by simp <;> omega, Hb.out⟩
      · obtain rfl : R = false := HR.out.trans (hS.trans (decide_eq_false h0))
        go_wp2_with fail
        go_returns
        exact ⟨by simp <;> omega, Hb.out⟩
theorem eq_takeM {a b : List (List Dw)} {j : Nat} {x y : List Dw} (hx : a[j]? = some x) (hy : b[j]? = some y) (h : a.take j = b.take j) (hxy : x = y) : a.take (j + 1) = b.take (j + 1) := by
  rw [List.take_add_one, List.take_add_one, h, hx, hy, hxy]
set_option maxRecDepth 100000 in
set_option maxHeartbeats 1600000 in
theorem sequalMt (B C D E : Nat) (v u : Value) (M N : List (List Dw)) (w : World) (hv : DSM w B C v M) (hu : DSM w D E u N) (hn : M.length ≤ 1048576) (_ : N.length ≤ 1048576) (hm : amps M ≤ 1048576) (hm' : amps N ≤ 1048576) :
    Calls Tryz.prog 14 #[v, u] w fun e w' => e = .returned (.bool (decide (M = N))) ∧ Below w.heap.size w w' := by
  obtain ⟨a, cap, rfl, hcap, hr⟩ := hv
  obtain ⟨a', cap', rfl, hcap', hr'⟩ := hu
  have Hr := Lib.hid hr
  have Hr' := Lib.hid hr'
  clear hr hr'
  by_cases hl : M.length = N.length
  · obtain ⟨R, hR⟩ : ∃ R, R = decide (M = N) := ⟨_, rfl⟩
    rw [← hR]
    have HR := Lib.hid hR
    clear hR
    rw [← hl] at Hr' hcap' ⊢
    have Hl := Lib.hid hl
    clear hl
    have hd2 : ((M.length : Int) != M.length) = false := by simp
    go_enter Tryz.func14, Tryz.ntmps14
    go_wp2_with fail
    go_loopg [5] M.length (fun k i wr => ∃ j : Nat, k = M.length - j ∧ j ≤ M.length ∧ i = .int .i64 j ∧ Hid (M.take j = N.take j) ∧ Hid (Below w.heap.size w wr))
    case atStart => exact ⟨0, rfl, Nat.zero_le _, rfl, rfl, Below.refl _ _⟩
    case round =>
      obtain ⟨j, rfl, hj, rfl, Heq, Hb⟩ := hrel
      by_cases hlt : j < M.length
      · obtain ⟨g, rfl, _, _, hrow⟩ := Hr.out (by omega)
        obtain ⟨g', rfl, _, _, hrow'⟩ := Hr'.out (by omega)
        obtain ⟨x, hx⟩ : ∃ r, M[j]? = some r := ⟨M[j], List.getElem?_eq_getElem hlt⟩
        obtain ⟨y, hy⟩ : ∃ r, N[j]? = some r := ⟨N[j]'(by have := Hl.out; omega), List.getElem?_eq_getElem _⟩
        have r1 := hrow.block (Hb.out.block _ hrow.lt) fun k _ _ hk => Hb.out.block k hk
        have r2 := hrow'.block (Hb.out.block _ hrow'.lt) fun k _ _ hk => Hb.out.block k hk
        obtain ⟨p, pc, c0, hd1⟩ := r1.cell hx
        obtain ⟨q, qc, c1, hd2⟩ := r2.cell hy
        have hgl := r1.lt
        have hgl' := r2.lt
        have Hx := Lib.hid hx
        have Hy := Lib.hid hy
        have He := Lib.hid (fun W (h1 : Hid (DSl W B (.slice p x.length pc) x)) (h2 : Hid (DSl W D (.slice q y.length qc) y)) => sequalSt B D (.slice p x.length pc) (.slice q y.length qc) x y W h1.out h2.out (by have := amps_row hx; omega) (by have := amps_row hy; omega))
        have Hd1 := Lib.hid hd1.dsl
        have Hd2 := Lib.hid hd2.dsl
        have hS : SP2 w g g' j B D (.slice p x.length pc) (.slice q y.length qc) x y wr := ⟨c0, c1, hgl, hgl', Hd1, Hd2, Hb.out⟩
        clear hd1 hd2 r1 r2 hrow hrow' hx hy
        by_cases hxy : x = y
        · rw [decide_eq_true hxy] at He
          have Hxy := Lib.hid hxy
          clear hxy
          go_upto_region 6 with fail
          go_region_held3 (fun w' => w'.cell? ⟨g, j, none⟩ = some (.slice p x.length pc) ∧ w'.cell? ⟨g', j, none⟩ = some (.slice q y.length qc) ∧ g < w'.heap.size ∧ g' < w'.heap.size ∧ Hid (DSl w' B (.slice p x.length pc) x) ∧ Hid (DSl w' D (.slice q y.length qc) y) ∧ Below w.heap.size w w') (first | (show SP2 w g g' j B D (.slice p x.length pc) (.slice q y.length qc) x y _; (with_reducible exact hS.drew)) | (show SP2 w g g' j B D (.slice p x.length pc) (.slice q y.length qc) x y _; (with_reducible refine SP2.below ?_ hbR); first | assumption | exact ⟨by assumption, by assumption, by assumption, by assumption, by assumption, by assumption, by assumption⟩))
            (first | (go_at_call 45; (with_reducible refine (He.out _ hS.drew.one hS.drew.two).mono ?_); rintro e wR ⟨rfl, hbR⟩))
          have Hb2 := Lib.hid (below_up Hb.out.drew hbR Hb.out.size)
          go_wp2_with fail
          go_roundg (M.length - (j + 1))
          case measure => omega
          case rel => exact ⟨j + 1, rfl, by omega, by go_num, Lib.hid (eq_takeM Hx.out Hy.out Heq.out Hxy.out), Hb2⟩
        · rw [decide_eq_false hxy] at He
          have hF : M ≠ N := fun h => hxy (by have h1 := Hx.out; rw [h, Hy.out] at h1; injection h1 with h1; exact h1.symm)
          obtain rfl : R = false := HR.out.trans (decide_eq_false hF)
          clear hF hxy
          go_upto_region 6 with fail
          go_region_held3 (fun w' => w'.cell? ⟨g, j, none⟩ = some (.slice p x.length pc) ∧ w'.cell? ⟨g', j, none⟩ = some (.slice q y.length qc) ∧ g < w'.heap.size ∧ g' < w'.heap.size ∧ Hid (DSl w' B (.slice p x.length pc) x) ∧ Hid (DSl w' D (.slice q y.length qc) y) ∧ Below w.heap.size w w') (first | (show SP2 w g g' j B D (.slice p x.length pc) (.slice q y.length qc) x y _; (with_reducible exact hS.drew)) | (show SP2 w g g' j B D (.slice p x.length pc) (.slice q y.length qc) x y _; (with_reducible refine SP2.below ?_ hbR); first | assumption | exact ⟨by assumption, by assumption, by assumption, by assumption, by assumption, by assumption, by assumption⟩))
            (first | (go_at_call 45; (with_reducible refine (He.out _ hS.drew.one hS.drew.two).mono ?_); rintro e wR ⟨rfl, hbR⟩))
          have Hb2 := Lib.hid (below_up Hb.out.drew hbR Hb.out.size)
          go_wp2_with fail
          go_ret
          exact ⟨rfl, Hb2.out⟩
      · obtain rfl : j = M.length := by omega
        have heq := Heq.out
        rw [List.take_length, Hl.out, List.take_length] at heq
        obtain rfl : R = true := HR.out.trans (decide_eq_true heq)
        go_wp2_with fail
        go_ret
        exact ⟨rfl, Hb.out⟩
  · rw [decide_eq_false (fun h => hl (by rw [h]))]
    have hd2 : ((M.length : Int) != N.length) = true := by simp; omega
    go_enter Tryz.func14, Tryz.ntmps14
    go_wp2_with fail
    go_ret
    exact ⟨rfl, Below.refl _ _⟩
end Go.Proofs.YtlmiebeffdcfhaaGreat
namespace Go.Proofs.YtlmiebeffdcfhaaGreat
open Go.RowKit
theorem col_step {M : List (List Dw)} {j k : Nat} {r : List Dw} {x : Dw} (hr : M[j]? = some r) (hx : r[k]? = some x) : flat ((col M k).take j) ++ fl x = flat ((col M k).take (j + 1)) := by
  have e : (col M k)[j]? = some x := by
    rw [col, List.getElem?_map, hr]
    simp [List.getD, hx]
  rw [List.take_add_one, e, flat_app]
  simp [flat]
attribute [local irreducible] World.cell?
set_option maxRecDepth 100000 in
set_option maxHeartbeats 1600000 in
theorem scolumn (B C : Nat) (v : Value) (M : List (List Dw)) (k : Nat) (w : World) (hv : DSM w B C v M) (hk : ∀ r ∈ M, k < r.length) (hn : M.length ≤ 1048576) (hk2 : k ≤ 1048576) :
    Calls Tryz.prog 76 #[v, .int .i64 k] w fun e w' => ∃ u, e = .returned u ∧ DSl w' w.heap.size u (col M k) ∧ Below w.heap.size w w' := by
  obtain ⟨i0, hi, hz0, hz1, hz2⟩ := info_parts infoDw
  obtain ⟨a, cap, rfl, hcap, hr⟩ := hv
  have Hr := Lib.hid hr
  clear hr
  have Hk := Lib.hid hk
  clear hk
  go_enter Tryz.func76, Tryz.ntmps76
  go_wp2_with fail
  go_loopg [5, 6] M.length (fun n out i wr => ∃ j : Nat, n = M.length - j ∧ j ≤ M.length ∧ i = .int .i64 j ∧ Hid (wr.ownsRow w.heap.size 70 5 out j (flat ((col M k).take j))) ∧ Hid (Below w.heap.size w wr))
  case atStart => exact ⟨0, rfl, Nat.zero_le _, rfl, own_new rfl, (Below.refl _ _).alloc (Nat.le_refl _) _⟩
  case round =>
    obtain ⟨j, rfl, hj, rfl, Hown, Hb⟩ := hrel
    by_cases hlt : j < M.length
    · obtain ⟨g, rfl, _, _, hrow⟩ := Hr.out (by omega)
      obtain ⟨r, hr⟩ : ∃ r, M[j]? = some r := ⟨M[j], List.getElem?_eq_getElem hlt⟩
      have hkr := Hk.out r (List.mem_of_getElem? hr)
      obtain ⟨x, hx⟩ : ∃ x, r[k]? = some x := ⟨r[k], List.getElem?_eq_getElem hkr⟩
      have r1 := hrow.block (Hb.out.block _ hrow.lt) fun k _ _ hk => Hb.out.block k hk
      obtain ⟨p, pc, c0, hd1⟩ := r1.cell hr
      obtain ⟨p', pc', he, hpc, hd2⟩ := hd1
      obtain ⟨g2, hp, _, _, hrow2⟩ := hd2 (by omega)
      injection he with he1 he2 he3
      subst he1 he3 hp
      obtain ⟨d0, d1, d2, d3, d4⟩ := hrow2.cells hx
      have Hstep := Lib.hid (col_step hr hx)
      have hgl := r1.lt
      have hgl2 := hrow2.lt
      have hs := Hb.out.size
      clear hd2 r1 hrow hrow2 hr hx he2
      go_wp2_with (first
        | (at_builtin; refine wpList_append_own _ rfl _ _ 59 rfl w.heap.size 70 i0 (.agg #[.int .i64 0, .int .i64 0, .int .i64 0, .int .i64 0, .int .i64 0]) 5 40 Tryz.underlying59 hi hz0 hz1 hz2 rfl (by decide) _ _ _ rfl (Hown.out.alloc _) ⟨wr.heap.size, 0, none⟩ 1 1 (fl x) rfl rfl (fl_new _ _ _) (fl_plain _) ?d3 ?d4 ?d5 ?_))
      case d3 => unfold maxLen; omega
      case d4 => omega
      case d5 => first | omega | (simp; omega) | (simp; omega)
      intro v' w4 hown' hgrow _
      have HB4 := Lib.hid ((Hb.out.alloc hs (.cells #[.int .i64 x.n.a, .int .i64 x.n.b, .int .i64 x.n.c, .int .i64 x.n.d, .int .i64 x.e] 70)).grown hgrow (by simp; omega) (fun q hq => by have := Hown.out.lt q hq; omega))
      rw [Hstep.out] at hown'
      have Hown4 := Lib.hid hown'
      clear hown' hgrow
      go_wp2_with fail
      go_roundg (M.length - (j + 1))
      case measure => omega
      case rel => exact ⟨j + 1, rfl, by omega, by go_num, Hown4.out, HB4⟩
    · obtain rfl : j = M.length := by omega
      have hown := Hown.out
      rw [show M.length = (col M k).length from (col_len M k).symm, List.take_length] at hown
      have Hd := Lib.hid (DSl.of_own hown)
      clear hown
      go_wp2_with fail
      go_ret
      exact ⟨_, rfl, Hd.out, Hb.out⟩
theorem colsM_at {L : List (List Dw)} {j : Nat} (hj : j < L.length) : (colsM L).take (j + 1) = (colsM L).take j ++ [col L j] := by
  rw [List.take_add_one, colsM, List.getElem?_map, List.getElem?_range hj]
  rfl
set_option maxRecDepth 100000 in
set_option maxHeartbeats 1600000 in
theorem scolumns (B C : Nat) (v : Value) (L : List (List Dw)) (w : World) (hv : DSM w B C v L) (hk : ∀ r ∈ L, L.length ≤ r.length) (hn : L.length ≤ 1048576) :
    Calls Tryz.prog 37 #[v] w fun e w' => ∃ u, e = .returned u ∧ DSM w' w.heap.size w'.heap.size u (colsM L) ∧ Below w.heap.size w w' := by
  obtain ⟨i0, hi, hz0, hz1, hz2⟩ := info_parts infoDs
  have Hv := Lib.hid hv
  have Hk := Lib.hid hk
  clear hk
  have Hc := Lib.hid (fun (j : Nat) (hj : j < L.length) W (h : DSM W B C v L) => scolumn B C v L j W h (fun r hr => Nat.lt_of_lt_of_le hj (Hk.out r hr)) hn (by omega))
  obtain ⟨a, cap, rfl, hcap, -⟩ := hv
  clear Hk
  go_enter Tryz.func37, Tryz.ntmps37
  go_wp2_with fail
  go_loopg [3, 4] L.length (fun n out i wr => ∃ (j : Nat) (vs : List Value), n = L.length - j ∧ j ≤ L.length ∧ i = .int .i64 j ∧ Hid (wr.ownsRow w.heap.size 59 1 out j vs) ∧ Hid (RwS wr w.heap.size wr.heap.size vs ((colsM L).take j)) ∧ Hid (Below w.heap.size w wr))
  case atStart => exact ⟨0, [], rfl, Nat.zero_le _, rfl, ownM_new rfl, RwS.nil, (Below.refl _ _).alloc (Nat.le_refl _) _⟩
  case round =>
    obtain ⟨j, vs, rfl, hj, rfl, Hown, Hrows, Hb⟩ := hrel
    by_cases hlt : j < L.length
    · have Hv1 := Lib.hid (Hv.out.block fun k _ _ hk => Hb.out.block k hk)
      have Hc1 := Lib.hid (Hc.out j hlt wr Hv1.out)
      clear Hv1
      have hs := Hb.out.size
      go_wp2_with fail
      refine (Hc1.out).mono ?_
      rintro e w2 ⟨u, rfl, hd, hb2⟩
      have Hown2 := Lib.hid (row_below Hown.out hb2)
      have Hrows2 := Lib.hid (Hrows.out.snoc hd.upto hs hb2.size fun k _ _ hk => hb2.block k hk)
      have Hb2 := Lib.hid (Hb.out.trans (hb2.mono hs))
      have hs2 := Hb2.out.size
      obtain ⟨p, pc, rfl, -, -⟩ := hd
      clear hb2 Hown Hrows Hb Hc1
      go_wp2_with (first
        | (at_builtin; refine wpList_append_own _ rfl _ _ 32 rfl w.heap.size 59 i0 (.slice none 0 0) 1 24 Tryz.underlying32 hi hz0 hz1 hz2 rfl (by decide) _ _ _ rfl (Hown2.out.alloc _) ⟨w2.heap.size, 0, none⟩ 1 1 [.slice p (col L j).length pc] rfl rfl (slice_new _ _ _) (by intro u hu; simp at hu; subst hu; rfl) ?d3 ?d4 ?d5 ?_))
      case d3 => unfold maxLen; omega
      case d4 => omega
      case d5 => first | omega | (simp; omega)
      intro v' w4 hown' hgrow _
      have HB4 := Lib.hid ((Hb2.out.alloc hs2 (.cells #[.slice p (col L j).length pc] 59)).grown hgrow (by simp; omega) (fun q hq => by have := Hown2.out.lt q hq; omega))
      have Hrows4 := Lib.hid (((Hrows2.out.block fun k _ _ hk => Below.heap_alloc _ _ _ hk).grown (Hown2.out.alloc _) hgrow).upto)
      have Hown4 := Lib.hid hown'
      clear hown' hgrow
      go_wp2_with fail
      go_roundg (L.length - (j + 1))
      case measure => omega
      case rel => exact ⟨j + 1, _, rfl, by omega, by go_num, Hown4.out, by rw [colsM_at hlt]; exact Hrows4, HB4⟩
    · obtain rfl : j = L.length := by omega
      have hown := Hown.out
      have hrows := Hrows.out
      rw [show L.length = (colsM L).length from (colsM_len L).symm] at hown hrows
      rw [List.take_length] at hrows
      have Hd := Lib.hid (DSM.of_own hown hrows (Nat.le_refl _))
      clear hown hrows
      go_wp2_with fail
      go_ret
      exact ⟨_, rfl, Hd.out, Hb.out⟩
end Go.Proofs.YtlmiebeffdcfhaaGreat
namespace Go.Proofs.YtlmiebeffdcfhaaGreat
open Go.RowKit
theorem adjM_yes {M : List (List Dw)} (h : mtB M = true) : adjM M = (List.range M.length).map fun i => (col M i).map dConjV := if_pos h
theorem adjM_no {M : List (List Dw)} (h : mtB M = false) : adjM M = [] := if_neg (by rw [h]; decide)
theorem adjM_len {M : List (List Dw)} (h : mtB M = true) : (adjM M).length = M.length := by rw [adjM_yes h, List.length_map, List.length_range]
theorem adjM_step {M : List (List Dw)} (h : mtB M = true) {j : Nat} (hj : j < M.length) : (adjM M).take (j + 1) = (adjM M).take j ++ [(col M j).map dConjV] := by
  rw [List.take_add_one, adjM_yes h, List.getElem?_map, List.getElem?_range hj]
  rfl
theorem turn_at {l : List Dw} {f : Dw → Dw} {k : Nat} {x : Dw} (hx : l[k]? = some x) : ((l.map f).take k ++ l.drop k)[k]? = some x := by
  have h : k < l.length := by
    rcases Nat.lt_or_ge k l.length with h' | h'
    · exact h'
    · rw [List.getElem?_eq_none h'] at hx; cases hx
  rw [List.getElem?_append_right (by simp; omega), List.getElem?_drop]
  rw [show k + (k - ((l.map f).take k).length) = k by simp; omega]
  exact hx
theorem turn_set {l : List Dw} {f : Dw → Dw} {k : Nat} {x : Dw} (hx : l[k]? = some x) : ((l.map f).take k ++ l.drop k).set k (f x) = (l.map f).take (k + 1) ++ l.drop (k + 1) := by
  have h : k < l.length := by
    rcases Nat.lt_or_ge k l.length with h' | h'
    · exact h'
    · rw [List.getElem?_eq_none h'] at hx; cases hx
  have e : l.drop k = x :: l.drop (k + 1) := by
    rw [List.getElem?_eq_getElem h] at hx
    injection hx with hx
    rw [← hx]
    exact (List.getElem_cons_drop ..).symm
  rw [List.set_append_right _ _ (by simp; omega), show k - ((l.map f).take k).length = 0 by simp; omega, e, List.set_cons_zero, List.take_add_one, List.getElem?_map, hx, List.append_assoc]
  rfl
attribute [local irreducible] World.cell?
set_option maxRecDepth 100000 in
set_option maxHeartbeats 3200000 in
theorem sadj_yes (B C : Nat) (v : Value) (M : List (List Dw)) (w : World) (hv : DSM w B C v M) (hM : mtB M = true) (hm : amps M ≤ 1048576) :
    Calls Tryz.prog 57 #[v] w fun e w' => ∃ u, e = .returned u ∧ DSM w' w.heap.size w'.heap.size u (adjM M) ∧ Below w.heap.size w w' := by
  obtain ⟨i0, hi, hz0, hz1, hz2⟩ := info_parts infoDs
  have hlen := mtB_len hM
  have Hv := Lib.hid hv
  have H1 := Lib.hid (fun W (h : DSM W B C v M) => svalidMt B C v M W h (by omega) hm)
  rw [hM] at H1
  have Hcol := Lib.hid (fun (k : Nat) (hk : k < M.length) W (h : DSM W B C v M) => scolumn B C v M k W h (fun r hr => by rw [((mtB_iff.1 hM).2 r hr).1]; exact hk) (by omega) (by omega))
  have Hst := Lib.hid (fun (j : Nat) (hj : j < M.length) => adjM_step hM hj)
  have Hl := Lib.hid (adjM_len hM)
  clear hM
  obtain ⟨a, cap, rfl, hcap, -⟩ := hv
  go_enter Tryz.func57, Tryz.ntmps57
  go_wp2_with fail
  go_loopg [3, 4] M.length (fun n out i wr => ∃ (j : Nat) (vs : List Value), n = M.length - j ∧ j ≤ M.length ∧ i = .int .i64 j ∧ Hid (wr.ownsRow w.heap.size 59 1 out j vs) ∧ Hid (RwS wr w.heap.size wr.heap.size vs ((adjM M).take j)) ∧ Hid (Below w.heap.size w wr))
  case atStart => exact ⟨0, [], rfl, Nat.zero_le _, rfl, ownM_new rfl, RwS.nil, (Below.refl _ _).alloc (Nat.le_refl _) _⟩
  case round =>
    obtain ⟨j, vs, rfl, hj, rfl, Hown, Hrows, Hb⟩ := hrel
    have hs := Hb.out.size
    have H1r := Lib.hid (H1.out wr (Hv.out.block fun k _ _ hk => Hb.out.block k hk))
    by_cases hlt : j < M.length
    · go_wp2_with fail
      refine (H1r.out).mono ?_
      rintro e w2 ⟨rfl, hb2⟩
      have Hv2 := Lib.hid (Hv.out.block fun k _ _ hk => (hb2.block k (by omega)).trans (Hb.out.block k hk))
      have Hown2 := Lib.hid (row_below Hown.out hb2)
      have Hrows2 := Lib.hid ((Hrows.out.block fun k _ _ hk => hb2.block k hk).mono (Nat.le_refl _) hb2.size)
      have Hb2 := Lib.hid (Hb.out.trans (hb2.mono hs))
      have hs2 := Hb2.out.size
      have Hc := Lib.hid (Hcol.out j hlt w2 Hv2.out)
      clear hb2 Hown Hrows Hb H1r Hv2
      go_wp2_with fail
      refine (Hc.out).mono ?_
      rintro e w3 ⟨u, rfl, hd, hb3⟩
      have hcl := col_len M j
      have Hst2 := Lib.hid (Hst.out j hlt)
      generalize col M j = c at *
      obtain ⟨p, pc, rfl, hpc, hd2⟩ := hd
      obtain ⟨g, rfl, hgB, hrow⟩ := hd2 (by omega)
      rw [hcl] at hpc ⊢
      have Hrow := Lib.hid hrow
      have Hb3 := Lib.hid hb3
      have hs3 := hb3.size
      have Hcl := Lib.hid hcl
      clear hd2 hrow hb3 Hc hcl
      go_wp2_with fail
      go_loopg [6] M.length (fun n i wr => ∃ k : Nat, n = M.length - k ∧ k ≤ M.length ∧ i = .int .i64 k ∧ Hid (DRow wr g ((c.map dConjV).take k ++ c.drop k)) ∧ Hid (Below w2.heap.size w2 wr))
      case atStart => exact ⟨0, rfl, Nat.zero_le _, rfl, by simpa using Hrow, Hb3⟩
      case round =>
        obtain ⟨k, rfl, hk, rfl, Hri, Hbi⟩ := hrel
        have hsi := Hbi.out.size
        by_cases hlk : k < M.length
        · obtain ⟨x, hx⟩ : ∃ x, c[k]? = some x := ⟨c[k]'(by have := Hcl.out; omega), List.getElem?_eq_getElem _⟩
          have hgl := Hri.out.lt
          obtain ⟨c0, c1, c2, c3, c4⟩ := Hri.out.cells (turn_at (f := dConjV) hx)
          have Hx := Lib.hid (sconjD_any x wr)
          have Hcl2 := Hcl.out
          go_wp2_with fail
          refine (Hx.out).mono ?_
          rintro e wj ⟨rfl, hbj⟩
          have hrj := Hri.out.below hbj hgl
          obtain ⟨d0, d1, d2, d3, d4⟩ := hrj.cells (turn_at (f := dConjV) hx)
          have f1 := fun o => hrj.free o
          have hgj := hrj.lt
          have hr3 := hrj.put k (by simp; omega) (dConjV x)
          rw [turn_set hx] at hr3
          have Hr3 := Lib.hid hr3
          have Hbj := Lib.hid (Hbi.out.trans (hbj.mono hsi))
          clear c0 c1 c2 c3 c4 hr3 hrj hbj Hri Hbi Hx hx Hcl2
          generalize dConjV x = y at *
          go_wp2_with fail
          go_roundg (M.length - (k + 1))
          case measure => omega
          case rel =>
            refine ⟨k + 1, rfl, by omega, by go_num, Hr3, ?_⟩
            have := Hbj.out
            show Below _ _ _
            go_grown
        · obtain rfl : k = M.length := by omega
          have hr := Hri.out
          have hcm : (c.map dConjV).length = M.length := by rw [List.length_map]; exact Hcl.out
          rw [← Hcl.out, List.drop_length, List.append_nil, show c.length = (c.map dConjV).length by rw [List.length_map], List.take_length] at hr
          have hrl := hr.lt
          generalize c.map dConjV = r at *
          have Hdsc := Lib.hid (show DSc wr w2.heap.size wr.heap.size (.slice (some ⟨g, 0, none⟩) M.length pc) r from ⟨_, _, by rw [hcm], by rw [hcm]; exact hpc, fun _ => ⟨g, rfl, hgB, hrl, hr⟩⟩)
          have Hown4 := Lib.hid (row_below Hown2.out Hbi.out)
          have Hrows4 := Lib.hid (Hrows2.out.upto.snoc Hdsc.out hs2 hsi fun k _ _ hk => Hbi.out.block k hk)
          have Hb4 := Lib.hid (Hb2.out.trans (Hbi.out.mono hs2))
          have hs4 := Hb4.out.size
          rw [← Hst2.out] at Hrows4
          clear hr Hri Hbi Hown2 Hrows2 Hb2 Hb3 Hrow Hcl
          go_wp2_with (first
            | (at_builtin; refine wpList_append_own _ rfl _ _ 32 rfl w.heap.size 59 i0 (.slice none 0 0) 1 24 Tryz.underlying32 hi hz0 hz1 hz2 rfl (by decide) _ _ _ rfl (Hown4.out.alloc _) ⟨wr.heap.size, 0, none⟩ 1 1 [.slice (some ⟨g, 0, none⟩) M.length pc] rfl rfl (slice_new _ _ _) (by intro u hu; simp at hu; subst hu; rfl) ?d3 ?d4 ?d5 ?_))
          case d3 => unfold maxLen; omega
          case d4 => omega
          case d5 => first | omega | (simp; omega)
          intro v' w5 hown' hgrow _
          have HB5 := Lib.hid ((Hb4.out.alloc hs4 (.cells #[.slice (some ⟨g, 0, none⟩) M.length pc] 59)).grown hgrow (by simp; omega) (fun q hq => by have := Hown4.out.lt q hq; omega))
          have Hrows5 := Lib.hid (((Hrows4.out.block fun k _ _ hk => Below.heap_alloc _ _ _ hk).grown (Hown4.out.alloc _) hgrow).upto)
          have Hown5 := Lib.hid hown'
          clear hown' hgrow
          go_wp2_with fail
          go_roundg (M.length - (j + 1))
          case measure => omega
          case rel => exact ⟨j + 1, _, rfl, by omega, by go_num, Hown5.out, Hrows5, HB5⟩
    · obtain rfl : j = M.length := by omega
      have hown := Hown.out
      have hrows := Hrows.out
      rw [← Hl.out, List.take_length] at hrows
      rw [← Hl.out] at hown
      have Hd := Lib.hid (DSM.of_own hown hrows (Nat.le_refl _))
      clear hown hrows
      go_wp2_with fail
      refine (H1r.out).mono ?_
      rintro e w2 ⟨rfl, hb2⟩
      have Hb2 := Lib.hid (Hb.out.trans (hb2.mono hs))
      have Hd2 := Lib.hid ((Hd.out.below hb2).mono (Nat.le_refl _) hb2.size)
      clear hb2
      go_wp2_with fail
      go_ret
      exact ⟨_, rfl, Hd2.out, Hb2.out⟩
set_option maxRecDepth 100000 in
set_option maxHeartbeats 1600000 in
theorem sadj_no (B C : Nat) (v : Value) (M : List (List Dw)) (w : World) (hv : DSM w B C v M) (hM : mtB M = false) (hn : M.length ≤ 1048576) (hm : amps M ≤ 1048576) :
    Calls Tryz.prog 57 #[v] w fun e w' => ∃ u, e = .returned u ∧ DSM w' w.heap.size w'.heap.size u [] ∧ Below w.heap.size w w' := by
  have Hv := Lib.hid hv
  have H1 := Lib.hid (fun W (h : DSM W B C v M) => svalidMt B C v M W h hn hm)
  rw [hM] at H1
  clear hM
  obtain ⟨a, cap, rfl, hcap, -⟩ := hv
  go_enter Tryz.func57, Tryz.ntmps57
  go_wp2_with fail
  go_loopg [3, 4] 0 (fun n out i wr => n = 0 ∧ i = .int .i64 0 ∧ out = .slice (some ⟨w.heap.size, 0, none⟩) 0 0 ∧ Hid (Below w.heap.size w wr))
  case atStart => exact ⟨rfl, rfl, rfl, (Below.refl _ _).alloc (Nat.le_refl _) _⟩
  case round =>
    obtain ⟨rfl, rfl, rfl, Hb⟩ := hrel
    have hs := Hb.out.size
    have H1r := Lib.hid (H1.out wr (Hv.out.block fun k _ _ hk => Hb.out.block k hk))
    go_wp2_with fail
    refine (H1r.out).mono ?_
    rintro e w2 ⟨rfl, hb2⟩
    have Hb2 := Lib.hid (Hb.out.trans (hb2.mono hs))
    clear hb2
    go_wp2_with fail
    go_ret
    exact ⟨_, rfl, DSM.nil, Hb2.out⟩
theorem sadj (B C : Nat) (v : Value) (M : List (List Dw)) (w : World) (hv : DSM w B C v M) (hn : M.length ≤ 1048576) (hm : amps M ≤ 1048576) :
    Calls Tryz.prog 57 #[v] w fun e w' => ∃ u, e = .returned u ∧ DSM w' w.heap.size w'.heap.size u (adjM M) ∧ Below w.heap.size w w' := by
  cases hM : mtB M with
  | false => rw [adjM_no hM]; exact sadj_no B C v M w hv hM hn hm
  | true => exact sadj_yes B C v M w hv hM hm
end Go.Proofs.YtlmiebeffdcfhaaGreat
namespace Go.Proofs.YtlmiebeffdcfhaaGreat
/-- A square of entries. -/
def mkM (n : Nat) (E : Nat → Nat → Dw) : List (List Dw) := (List.range n).map fun i => (List.range n).map fun j => E i j
theorem mkM_len (n : Nat) (E : Nat → Nat → Dw) : (mkM n E).length = n := by rw [mkM, List.length_map, List.length_range]
theorem range_getD {α : Type} {n i : Nat} (h : i < n) (f : Nat → α) (d : α) : ((List.range n).map f).getD i d = f i := by
  rw [List.getD_eq_getElem?_getD, List.getElem?_map, List.getElem?_range h]; rfl
theorem mkM_row {n i : Nat} (h : i < n) (E : Nat → Nat → Dw) : (mkM n E).getD i [] = (List.range n).map fun j => E i j := range_getD h _ _
theorem mkM_at {n i j : Nat} (hi : i < n) (hj : j < n) (E : Nat → Nat → Dw) : ((mkM n E).getD i []).getD j .zero = E i j := by rw [mkM_row hi, range_getD hj]
theorem mkM_congr {n : Nat} {E F : Nat → Nat → Dw} (h : ∀ i j, i < n → j < n → E i j = F i j) : mkM n E = mkM n F :=
  List.map_congr_left fun i hi => List.map_congr_left fun j hj => h i j (List.mem_range.1 hi) (List.mem_range.1 hj)
theorem mkM_mt {n : Nat} {E : Nat → Nat → Dw} (hn : 0 < n) (hq : 0 < qc n) (h : ∀ i j, i < n → j < n → (E i j).ok) : mtB (mkM n E) = true := by
  rw [mtB_iff, mkM_len]
  refine ⟨hn, fun r hr => ?_⟩
  obtain ⟨i, hi, rfl⟩ := List.mem_map.1 hr
  have hl : ((List.range n).map fun j => E i j).length = n := by rw [List.length_map, List.length_range]
  refine ⟨hl, stB_iff.2 ⟨fun x hx => ?_, by rw [hl]; exact hq⟩⟩
  obtain ⟨j, hj, rfl⟩ := List.mem_map.1 hx
  exact h i j (List.mem_range.1 hi) (List.mem_range.1 hj)
theorem mt_ok {M : List (List Dw)} (h : mtB M = true) {i j : Nat} (hi : i < M.length) (hj : j < M.length) : ((M.getD i []).getD j .zero).ok := by
  have hr := mtB_row h (List.getElem?_eq_getElem hi)
  rw [show M.getD i [] = M[i] by rw [List.getD_eq_getElem?_getD, List.getElem?_eq_getElem hi]; rfl]
  rw [List.getD_eq_getElem?_getD, List.getElem?_eq_getElem (by omega)]
  exact (stB_iff.1 hr.2).1 _ (List.getElem_mem _)
theorem col_at {M : List (List Dw)} (k : Nat) : col M k = (List.range M.length).map fun i => (M.getD i []).getD k .zero := by
  unfold col
  conv => lhs; rw [← list_range M []]
  rw [List.map_map]
  rfl
theorem adjM_mk {M : List (List Dw)} (h : mtB M = true) : adjM M = mkM M.length fun i j => dConjV ((M.getD j []).getD i .zero) := by
  rw [adjM_yes h]
  refine List.map_congr_left fun i _ => ?_
  rw [col_at, List.map_map]
  rfl
theorem adjM_mt {M : List (List Dw)} (h : mtB M = true) : mtB (adjM M) = true := by
  rw [adjM_mk h]
  exact mkM_mt (mtB_iff.1 h).1 (mtB_qc h) fun i j hi hj => conjV_ok (mt_ok h hj hi)
theorem col_ok {M : List (List Dw)} (h : mtB M = true) {k : Nat} (hk : k < M.length) : ∀ x ∈ col M k, x.ok := by
  rw [col_at]
  intro x hx
  obtain ⟨i, hi, rfl⟩ := List.mem_map.1 hx
  exact mt_ok h (List.mem_range.1 hi) hk
theorem app_row {A : List (List Dw)} {v : List Dw} (h : appB A v = true) {i : Nat} (hi : i < A.length) : rowB (A.getD i []) v = true := by
  unfold appB at h
  simp only [Bool.and_eq_true, List.all_eq_true] at h
  refine h.2 _ ?_
  rw [show A.getD i [] = A[i] by rw [List.getD_eq_getElem?_getD, List.getElem?_eq_getElem hi]; rfl]
  exact List.getElem_mem hi
theorem mulM_mk {A B : List (List Dw)} (h : mulMB A B = true) : mulM A B = mkM A.length fun i k => rowV (A.getD i []) (col B k) := mulM_eq h
end Go.Proofs.YtlmiebeffdcfhaaGreat
namespace Go.Proofs.YtlmiebeffdcfhaaGreat
open Go.RowKit
theorem mrow_step {s : Dw} {l : List (Dw × Dw)} {j : Nat} {p : Dw × Dw} (hp : l[j]? = some p) :
    mrow s (l.drop j) = if p.1 = .zero ∨ p.2 = .zero then mrow s (l.drop (j + 1)) else if dMulB p.1 p.2 && dAddB s (dMulV p.1 p.2) then mrow (dAddV s (dMulV p.1 p.2)) (l.drop (j + 1)) else none := by
  have hj : j < l.length := by
    rcases Nat.lt_or_ge j l.length with h | h
    · exact h
    · rw [List.getElem?_eq_none h] at hp; cases hp
  have e : l.drop j = p :: l.drop (j + 1) := by
    rw [List.getElem?_eq_getElem hj] at hp
    injection hp with hp
    rw [← hp]
    exact (List.getElem_cons_drop ..).symm
  rw [e, mrow]
attribute [local irreducible] World.cell?
set_option maxRecDepth 100000 in
set_option maxHeartbeats 3200000 in
theorem srow (B C : Nat) (v u : Value) (a b : List Dw) (w : World) (hv : DSl w B v a) (hu : DSl w C u b) (hl : a.length = b.length) (hlen : b.length ≤ 1048576) :
    Calls Tryz.prog 120 #[v, u] w fun e w' => e = .returned (.tuple #[(.agg #[.int .i64 (rowV a b).n.a, .int .i64 (rowV a b).n.b, .int .i64 (rowV a b).n.c, .int .i64 (rowV a b).n.d, .int .i64 (rowV a b).e]), .bool (rowB a b)]) ∧ Below w.heap.size w w' := by
  have Hr0_0 := Lib.hid (alloc_blk (.cells #[.int .i64 0, .int .i64 0, .int .i64 0, .int .i64 0, .int .i64 0] 70) (heap_alloc_new w (.cells #[.int .i64 0, .int .i64 0, .int .i64 0, .int .i64 0, .int .i64 0] 70)))
  have Hr0_1 := Lib.hid (show ((w.alloc (.cells #[.int .i64 0, .int .i64 0, .int .i64 0, .int .i64 0, .int .i64 0] 70)).alloc (.cells #[.int .i64 0, .int .i64 0, .int .i64 0, .int .i64 0, .int .i64 0] 70)).heap[w.heap.size + 1]? = some (.cells #[.int .i64 0, .int .i64 0, .int .i64 0, .int .i64 0, .int .i64 0] 70 (0, 0)) from by simpa using heap_alloc_new (w.alloc (.cells #[.int .i64 0, .int .i64 0, .int .i64 0, .int .i64 0, .int .i64 0] 70)) (.cells #[.int .i64 0, .int .i64 0, .int .i64 0, .int .i64 0, .int .i64 0] 70))
  have hV : rowV a b = (mrow .zero (a.zip b)).getD .zero := rfl
  have hB : rowB a b = (mrow .zero (a.zip b)).isSome := rfl
  generalize rowV a b = V at *
  generalize rowB a b = T at *
  have HV := Lib.hid hV
  have HT := Lib.hid hB
  clear hV hB
  obtain ⟨p, cap, rfl, hcap, hr⟩ := hv
  obtain ⟨p', cap', rfl, hcap', hr'⟩ := hu
  rw [hl] at hr hcap ⊢
  have Hr := Lib.hid hr
  have Hr' := Lib.hid hr'
  clear hr hr'
  go_enter Tryz.func120, Tryz.ntmps120
  go_wp2_with fail
  go_loopg [7] b.length (fun k i wr => ∃ (j : Nat) (s : Dw), k = b.length - j ∧ j ≤ b.length ∧ i = .int .i64 j ∧ Hid (mrow s ((a.zip b).drop j) = mrow .zero (a.zip b)) ∧ Hid s.ok ∧ Hid (wr.heap[w.heap.size + 1]? = some (.cells #[.int .i64 s.n.a, .int .i64 s.n.b, .int .i64 s.n.c, .int .i64 s.n.d, .int .i64 s.e] 70)) ∧ Hid (wr.heap[w.heap.size]? = some (.cells #[.int .i64 0, .int .i64 0, .int .i64 0, .int .i64 0, .int .i64 0] 70)) ∧ Hid (Below w.heap.size w wr))
  case atStart => exact ⟨0, .zero, rfl, Nat.zero_le _, rfl, Lib.hid rfl, Lib.hid zero_ok, Hr0_1, Hr0_0, ((Below.refl _ _).alloc (Nat.le_refl _) _).alloc (by simp) _⟩
  case round =>
    obtain ⟨j, s, rfl, hj, rfl, HI, Hs, HS, HR, Hb⟩ := hrel
    by_cases hlt : j < b.length
    · obtain ⟨g, rfl, _, hrow⟩ := Hr.out (by omega)
      obtain ⟨g', rfl, _, hrow'⟩ := Hr'.out (by omega)
      obtain ⟨x, hx⟩ : ∃ x, a[j]? = some x := ⟨a[j], List.getElem?_eq_getElem (by omega)⟩
      obtain ⟨y, hy⟩ : ∃ y, b[j]? = some y := ⟨b[j], List.getElem?_eq_getElem hlt⟩
      have r1 := hrow.below Hb.out hrow.lt
      have r2 := hrow'.below Hb.out hrow'.lt
      obtain ⟨c0, c1, c2, c3, c4⟩ := r1.cells hx
      obtain ⟨d0, d1, d2, d3, d4⟩ := r2.cells hy
      have hgl := r1.lt
      have hgl' := r2.lt
      have hsl := lt_of_block HS.out
      have hrl := lt_of_block HR.out
      have Hm := Lib.hid (smulD_any x y)
      have hez := mul_eb x y
      have hes := ok_eb Hs.out
      have Hadd := Lib.hid (fun w => saddD_any s (dMulV x y) w hes.1 hes.2 hez.1 hez.2)
      have Hstep := Lib.hid (mrow_step (s := s) (zip_at hx hy))
      have Hn := Lib.hid (fun h => dAddV_ok (x := s) (y := dMulV x y) h)
      have Heqx : ∀ w, (binOp .eql 70 (.agg #[.int .i64 x.n.a, .int .i64 x.n.b, .int .i64 x.n.c, .int .i64 x.n.d, .int .i64 x.e]) (.agg #[.int .i64 0, .int .i64 0, .int .i64 0, .int .i64 0, .int .i64 0])).run Tryz.prog w = .ok (.bool (eqDB x .zero)) w := fun w => eqD x .zero w
      have Heqy : ∀ w, (binOp .eql 70 (.agg #[.int .i64 y.n.a, .int .i64 y.n.b, .int .i64 y.n.c, .int .i64 y.n.d, .int .i64 y.e]) (.agg #[.int .i64 0, .int .i64 0, .int .i64 0, .int .i64 0, .int .i64 0])).run Tryz.prog w = .ok (.bool (eqDB y .zero)) w := fun w => eqD y .zero w
      have Hz1 := Lib.hid (@eqDB_iff x .zero)
      have Hz2 := Lib.hid (@eqDB_iff y .zero)
      simp only [] at Hstep
      clear hx hy hrow hrow' r1 r2 hez hes
      generalize dAddV s (dMulV x y) = n at *
      generalize dAddB s (dMulV x y) = t2 at *
      generalize dMulV x y = z at *
      generalize dMulB x y = t1 at *
      generalize eqDB x .zero = q1 at *
      generalize eqDB y .zero = q2 at *
      by_cases hq : q1 = true ∨ q2 = true
      · have h := Hstep.out.symm.trans HI.out
        rw [if_pos (hq.imp Hz1.out.1 Hz2.out.1)] at h
        have H := Lib.hid h
        clear h
        rcases hq with rfl | rfl
        · go_wp2_with fail
          go_roundg (b.length - (j + 1))
          case measure => omega
          case rel => exact ⟨j + 1, s, rfl, by omega, by go_num, H, Hs, HS, HR, Hb⟩
        · cases q1
          · go_wp2_with fail
            go_roundg (b.length - (j + 1))
            case measure => omega
            case rel => exact ⟨j + 1, s, rfl, by omega, by go_num, H, Hs, HS, HR, Hb⟩
          · go_wp2_with fail
            go_roundg (b.length - (j + 1))
            case measure => omega
            case rel => exact ⟨j + 1, s, rfl, by omega, by go_num, H, Hs, HS, HR, Hb⟩
      obtain ⟨rfl, rfl⟩ : q1 = false ∧ q2 = false := by cases q1 <;> cases q2 <;> simp at hq ⊢
      rw [if_neg (fun h => by rcases h with h | h; exact absurd (Hz1.out.2 h) (by decide); exact absurd (Hz2.out.2 h) (by decide))] at Hstep
      clear hq Hz1 Hz2
      go_upto_region 6 with fail
      clear Heqx Heqy
      go_cut [8, 9] from 33 to 45 (fun s8 s9 wx => ∃ k, s8 = .pointer (some ⟨k, 0, none⟩) ∧ s9 = .bool t1 ∧ wx.cell? ⟨k, 0, none⟩ = some (.int .i64 z.n.a) ∧ wx.cell? ⟨k, 1, none⟩ = some (.int .i64 z.n.b) ∧ wx.cell? ⟨k, 2, none⟩ = some (.int .i64 z.n.c) ∧ wx.cell? ⟨k, 3, none⟩ = some (.int .i64 z.n.d) ∧ wx.cell? ⟨k, 4, none⟩ = some (.int .i64 z.e) ∧ Hid (Below wr.heap.size wr wx))
      case first =>
        have hS : E2 wr g g' (j * 5) x y wr := ⟨c0, c1, c2, c3, c4, d0, d1, d2, d3, d4, hgl, hgl', Below.refl _ _⟩
        have hq : wr.heap.size ≤ wr.heap.size := Nat.le_refl _
        have hn : g < wr.heap.size ∧ g' < wr.heap.size := ⟨hgl, hgl'⟩
        have hw : wr.heap.size ≤ wr.heap.size := Nat.le_refl _
        go_region_held3 (fun w' => w'.cell? ⟨g, j * 5, none⟩ = some (.int .i64 x.n.a) ∧ w'.cell? ⟨g, j * 5 + 1, none⟩ = some (.int .i64 x.n.b) ∧ w'.cell? ⟨g, j * 5 + 2, none⟩ = some (.int .i64 x.n.c) ∧ w'.cell? ⟨g, j * 5 + 3, none⟩ = some (.int .i64 x.n.d) ∧ w'.cell? ⟨g, j * 5 + 4, none⟩ = some (.int .i64 x.e) ∧ w'.cell? ⟨g', j * 5, none⟩ = some (.int .i64 y.n.a) ∧ w'.cell? ⟨g', j * 5 + 1, none⟩ = some (.int .i64 y.n.b) ∧ w'.cell? ⟨g', j * 5 + 2, none⟩ = some (.int .i64 y.n.c) ∧ w'.cell? ⟨g', j * 5 + 3, none⟩ = some (.int .i64 y.n.d) ∧ w'.cell? ⟨g', j * 5 + 4, none⟩ = some (.int .i64 y.e) ∧ g < w'.heap.size ∧ g' < w'.heap.size ∧ Below wr.heap.size wr w') (first | (show E2 wr g g' (j * 5) x y _; (with_reducible exact hS.drew)) | (show E2 wr g g' (j * 5) x y _; (with_reducible exact (hS.alloc _).drew)) | (show E2 wr g g' (j * 5) x y _; (with_reducible refine E2.below ?_ hbR); first | assumption | exact ⟨by assumption, by assumption, by assumption, by assumption, by assumption, by assumption, by assumption, by assumption, by assumption, by assumption, by assumption, by assumption, by assumption⟩) | (show E2 wr g g' (j * 5) x y _; (with_reducible refine E2.alloc ?_ _); first | assumption | exact ⟨by assumption, by assumption, by assumption, by assumption, by assumption, by assumption, by assumption, by assumption, by assumption, by assumption, by assumption, by assumption, by assumption⟩) | (show E2 wr g g' (j * 5) x y _; (with_reducible refine E2.realloc (p := .cells #[.int .i64 0, .int .i64 0, .int .i64 0, .int .i64 0, .int .i64 0] 70) ?_ hq hn hw); first | assumption | exact ⟨by assumption, by assumption, by assumption, by assumption, by assumption, by assumption, by assumption, by assumption, by assumption, by assumption, by assumption, by assumption, by assumption⟩) | (show E2 wr g g' (j * 5) x y _; (with_reducible refine E2.set5 (lim := wr.heap.size) ?_ ?_ hn hw); (first | assumption | exact ⟨by assumption, by assumption, by assumption, by assumption, by assumption, by assumption, by assumption, by assumption, by assumption, by assumption, by assumption, by assumption, by assumption⟩); (first | assumption | exact Nat.le_refl _)))
          (first | (go_at_call 73; (first | (with_reducible refine (Hm.out _).mono ?_)); rintro e wR ⟨rfl, hbR⟩; (first | (have hq := Nat.le_trans hq hbR.size) | (have hq : wr.heap.size ≤ wR.heap.size := by have := hbR.size; simpa using this) | (have hq : wr.heap.size ≤ wR.heap.size := by have := hbR.size; simp at this; exact Nat.le_of_succ_le this) | (have hq := Nat.le_trans hq (Nat.le_of_succ_le (by have := hbR.size; simpa using this)))); obtain ⟨hcR, hfR, hzR⟩ := bgrow hbR; (first | (have zg := hzR _ zg) | (have zg := hzR _ (lt_alloc _ _); try simp at zg) | skip)))
        all_goals go_wp2_with fail
        all_goals go_meet
        all_goals refine ⟨_, rfl, rfl, ?_, ?_, ?_, ?_, ?_, E2.low (g := g) (g' := g') (o := j * 5) (x := x) (y := y) (by assumption)⟩
        all_goals (simp [*, go_sem]; done)
      case rest =>
      obtain ⟨k, rfl, rfl, k0, k1, k2, k3, k4, Hbx⟩ := hcut
      have HS2 := Lib.hid (below_blk Hbx.out hsl HS.out)
      have HR2 := Lib.hid (below_blk Hbx.out hrl HR.out)
      have Hb3 := Lib.hid (below_nx Hb.out Hbx.out)
      have hs3 := Hb3.out.size
      have hsx := Hbx.out.size
      have hkl := World.block_lt_of_cell? _ _ k0
      clear c0 c1 c2 c3 c4 d0 d1 d2 d3 d4 HS HR Hb Hm
      obtain ⟨m0, m1, m2, m3, m4⟩ := blk_cells5 HS2.out
      go_wp2_with fail
      refine (Hadd.out _).mono ?_
      rintro e w4 ⟨rfl, hb4⟩
      have hsl4 := lt_of_block HS2.out
      have HS4 := Lib.hid (below_blk hb4 (lt_of_block HS2.out) HS2.out)
      have HR4 := Lib.hid (below_blk hb4 (lt_of_block HR2.out) HR2.out)
      have Hb4 := Lib.hid (below_nx Hb3.out hb4)
      have hs4 := Hb4.out.size
      have hz4 := lt_of_block HS4.out
      clear hb4 HS2 HR2 Hb3 Hadd k0 k1 k2 k3 k4 m0 m1 m2 m3 m4
      have HR := Lib.hid (alloc_blk (.cells #[.int .i64 n.n.a, .int .i64 n.n.b, .int .i64 n.n.c, .int .i64 n.n.d, .int .i64 n.e] 70) HR4.out)
      have HS5 := Lib.hid (alloc_blk (.cells #[.int .i64 n.n.a, .int .i64 n.n.b, .int .i64 n.n.c, .int .i64 n.n.d, .int .i64 n.e] 70) HS4.out)
      have Hb := Lib.hid (Hb4.out.alloc hs4 (.cells #[.int .i64 n.n.a, .int .i64 n.n.b, .int .i64 n.n.c, .int .i64 n.n.d, .int .i64 n.e] 70))
      obtain ⟨e0, e1, e2, e3, e4⟩ := blk_cells5 HR4.out
      have f1 := fun o => free_at HR4.out o
      have hrl4 := lt_of_block HR4.out
      cases t1 with
      | false =>
        have h := Hstep.out.symm.trans HI.out
        simp only [Bool.false_and, Bool.false_eq_true, if_false] at h
        obtain rfl : V = .zero := HV.out.trans (by rw [← h]; rfl)
        obtain rfl : T = false := HT.out.trans (by rw [← h]; rfl)
        go_wp2_with fail
        obtain ⟨k0, k1, k2, k3, k4⟩ := blk_cells5 (alloc_blk (.cells #[.int .i64 n.n.a, .int .i64 n.n.b, .int .i64 n.n.c, .int .i64 n.n.d, .int .i64 n.e] 70) (set5_at (u0 := .int .i64 0) (u1 := .int .i64 0) (u2 := .int .i64 0) (u3 := .int .i64 0) (u4 := .int .i64 0) HR4.out))
        refine bodyPost_ret (v := .tuple #[(.agg #[.int .i64 Dw.zero.n.a, .int .i64 Dw.zero.n.b, .int .i64 Dw.zero.n.c, .int .i64 Dw.zero.n.d, .int .i64 Dw.zero.e]), .bool false]) (by simp only [results, Tryz.results120]; simp [go_sem, k0, k1, k2, k3, k4, Dw.zero, Zw.zero]) rfl ⟨rfl, ?_⟩
        have := Hb4.out
        have := Hb4.out.size
        go_grown
      | true =>
        cases t2 with
        | false =>
          have h := Hstep.out.symm.trans HI.out
          simp only [Bool.and_false, Bool.false_eq_true, if_false] at h
          obtain rfl : V = .zero := HV.out.trans (by rw [← h]; rfl)
          obtain rfl : T = false := HT.out.trans (by rw [← h]; rfl)
          go_wp2_with fail
          obtain ⟨k0, k1, k2, k3, k4⟩ := blk_cells5 (alloc_blk (.cells #[.int .i64 n.n.a, .int .i64 n.n.b, .int .i64 n.n.c, .int .i64 n.n.d, .int .i64 n.e] 70) (set5_at (u0 := .int .i64 0) (u1 := .int .i64 0) (u2 := .int .i64 0) (u3 := .int .i64 0) (u4 := .int .i64 0) HR4.out))
          refine bodyPost_ret (v := .tuple #[(.agg #[.int .i64 Dw.zero.n.a, .int .i64 Dw.zero.n.b, .int .i64 Dw.zero.n.c, .int .i64 Dw.zero.n.d, .int .i64 Dw.zero.e]), .bool false]) (by simp only [results, Tryz.results120]; simp [go_sem, k0, k1, k2, k3, k4, Dw.zero, Zw.zero]) rfl ⟨rfl, ?_⟩
          have := Hb4.out
          have := Hb4.out.size
          go_grown
        | true =>
          have h := Hstep.out.symm.trans HI.out
          simp only [Bool.and_self, if_true] at h
          obtain ⟨q0, q1, q2, q3, q4⟩ := blk_cells5 HS4.out
          have f2 := fun o => free_at HS4.out o
          have Hsn := Lib.hid (alloc_blk (.cells #[.int .i64 n.n.a, .int .i64 n.n.b, .int .i64 n.n.c, .int .i64 n.n.d, .int .i64 n.e] 70) (set5_at (u0 := .int .i64 n.n.a) (u1 := .int .i64 n.n.b) (u2 := .int .i64 n.n.c) (u3 := .int .i64 n.n.d) (u4 := .int .i64 n.e) HS4.out))
          have hne : w.heap.size ≠ w.heap.size + 1 := by omega
          have Hrn := Lib.hid (alloc_blk (.cells #[.int .i64 n.n.a, .int .i64 n.n.b, .int .i64 n.n.c, .int .i64 n.n.d, .int .i64 n.e] 70) (set5_blk (g := w.heap.size + 1) (u0 := .int .i64 n.n.a) (u1 := .int .i64 n.n.b) (u2 := .int .i64 n.n.c) (u3 := .int .i64 n.n.d) (u4 := .int .i64 n.e) hne HR4.out))
          go_wp2_with fail
          go_roundg (b.length - (j + 1))
          case measure => omega
          case rel =>
            refine ⟨j + 1, n, rfl, by omega, by go_num, Lib.hid h, Lib.hid (Hn.out (by trivial)), Hsn, Hrn, ?_⟩
            have := Hb4.out
            have := Hb4.out.size
            show Below _ _ _
            go_grown
    · obtain rfl : j = b.length := by omega
      have hzl : (a.zip b).length = b.length := by rw [List.length_zip]; omega
      have h := HI.out
      rw [List.drop_of_length_le (by omega)] at h
      obtain rfl : V = s := HV.out.trans (by rw [← h]; rfl)
      obtain rfl : T = true := HT.out.trans (by rw [← h]; rfl)
      obtain ⟨q0, q1, q2, q3, q4⟩ := blk_cells5 HS.out
      obtain ⟨e0, e1, e2, e3, e4⟩ := blk_cells5 HR.out
      have f1 := fun o => free_at HR.out o
      have hrl := lt_of_block HR.out
      go_wp2_with fail
      obtain ⟨k0, k1, k2, k3, k4⟩ := blk_cells5 (set5_at (u0 := .int .i64 V.n.a) (u1 := .int .i64 V.n.b) (u2 := .int .i64 V.n.c) (u3 := .int .i64 V.n.d) (u4 := .int .i64 V.e) HR.out)
      refine bodyPost_ret (v := .tuple #[(.agg #[.int .i64 V.n.a, .int .i64 V.n.b, .int .i64 V.n.c, .int .i64 V.n.d, .int .i64 V.e]), .bool true]) (by simp only [results, Tryz.results120]; simp [go_sem, k0, k1, k2, k3, k4]) rfl ⟨rfl, ?_⟩
      have := Hb.out
      go_grown
end Go.Proofs.YtlmiebeffdcfhaaGreat
namespace Go.Proofs.YtlmiebeffdcfhaaGreat
open Go.RowKit
theorem appB_of {M : List (List Dw)} {v : List Dw} (hM : mtB M = true) (hv : stB v = true) (hl : M.length = v.length) : appB M v = M.all fun r => rowB r v := by
  unfold appB; rw [hM, hv, decide_eq_true hl]; rfl
theorem app_step {M : List (List Dw)} {v : List Dw} {j : Nat} {r : List Dw} (hr : M[j]? = some r) : flat ((M.map fun r => rowV r v).take j) ++ fl (rowV r v) = flat ((M.map fun r => rowV r v).take (j + 1)) := by
  rw [List.take_add_one, List.getElem?_map, hr, flat_app]
  simp [flat]
attribute [local irreducible] World.cell?
set_option maxRecDepth 100000 in
set_option maxHeartbeats 3200000 in
theorem sapply_yes (B C D : Nat) (v u : Value) (M : List (List Dw)) (b : List Dw) (w : World) (hv : DSM w B C v M) (hu : DSl w D u b) (hM : mtB M = true) (hb : stB b = true) (hl : M.length = b.length) (hm : amps M ≤ 1048576) :
    Calls Tryz.prog 86 #[v, u] w fun e w' => (∃ r, e = .returned (.tuple #[r, .bool (appB M b)]) ∧ DSl w' w.heap.size r (appL M b)) ∧ Below w.heap.size w w' := by
  obtain ⟨i0, hi, hz0, hz1, hz2⟩ := info_parts infoDw
  have hlen := stB_len hb
  have H1 := Lib.hid (svalidMt B C v M w hv (by omega) hm)
  have H2 := Lib.hid (fun W (h : DSl W D u b) => svalidSt D u b W h (by omega))
  rw [hM] at H1
  rw [hb] at H2
  have Hv := Lib.hid hv
  have Hu := Lib.hid hu
  have Hrl := Lib.hid (fun (j : Nat) (r : List Dw) (h : M[j]? = some r) => (mtB_row hM h).1)
  have Hrow := Lib.hid (fun W (p : Value) (r : List Dw) (h : DSl W B p r) (h' : DSl W D u b) (hlr : r.length = M.length) => srow B D p u r b W h h' (hlr.trans hl) (by omega))
  have hA := appB_of hM hb hl
  obtain ⟨SB, hSB⟩ : ∃ SB, SB = appB M b := ⟨_, rfl⟩
  obtain ⟨SL, hSL⟩ : ∃ SL, SL = appL M b := ⟨_, rfl⟩
  rw [← hSB, ← hSL]
  have HSB := Lib.hid (hSB.trans hA)
  have HSL := Lib.hid (show SL = if SB then M.map (fun r => rowV r b) else [] by rw [hSB]; exact hSL)
  clear hA hSB hSL hM hb
  obtain ⟨a, cap, rfl, hcap, hr⟩ := hv
  obtain ⟨a', cap', rfl, hcap', -⟩ := hu
  rw [← hl] at Hrow H2 hcap' Hu hlen ⊢
  have Hr := Lib.hid hr
  clear hr hl
  have hd2 : ((M.length : Int) != M.length) = false := by simp
  go_enter Tryz.func86, Tryz.ntmps86
  go_wp2_with fail
  refine (H1.out).mono ?_
  rintro e w1 ⟨rfl, hb1⟩
  have Hb1 := Lib.hid hb1
  have Hu1 := Lib.hid (Hu.out.below hb1)
  clear hb1
  go_wp2_with fail
  refine (H2.out _ Hu1.out).mono ?_
  rintro e w2 ⟨rfl, hb2⟩
  have Hb2 := Lib.hid (Hb1.out.trans (hb2.mono Hb1.out.size))
  have hs2 := Hb2.out.size
  clear hb2 Hb1 Hu1 H1 H2
  go_wp2_with fail
  go_loopg [6, 7] M.length (fun n out i wr => ∃ j : Nat, n = M.length - j ∧ j ≤ M.length ∧ i = .int .i64 j ∧ Hid (wr.ownsRow w2.heap.size 70 5 out j (flat ((M.map fun r => rowV r b).take j))) ∧ Hid ((M.take j).all (fun r => rowB r b) = true) ∧ Hid (Below w.heap.size w wr) ∧ w2.heap.size ≤ wr.heap.size)
  case atStart => exact ⟨0, rfl, Nat.zero_le _, rfl, own_new rfl, Lib.hid (show (List.take 0 M).all _ = true from rfl), Lib.hid (Hb2.out.alloc hs2 _), by simp⟩
  case round =>
    obtain ⟨j, rfl, hj, rfl, Hown, Hall, Hb, hsz⟩ := hrel
    have hs := Hb.out.size
    by_cases hlt : j < M.length
    · obtain ⟨g, rfl, _, _, hrow⟩ := Hr.out (by omega)
      obtain ⟨r, hr⟩ : ∃ r, M[j]? = some r := ⟨M[j], List.getElem?_eq_getElem hlt⟩
      have r1 := hrow.block (Hb.out.block _ hrow.lt) fun k _ _ hk => Hb.out.block k hk
      obtain ⟨p, pc, c0, hd1⟩ := r1.cell hr
      have hgl := r1.lt
      have Hx := Lib.hid (Hrow.out wr _ r hd1.dsl (Hu.out.block fun k _ hk => Hb.out.block k hk) (Hrl.out j r hr))
      have Hstep := Lib.hid (app_step (v := b) hr)
      have Hat := Lib.hid (all_take (p := fun r => rowB r b) hr Hall.out)
      have Hno := Lib.hid (fun h => all_no (p := fun r => rowB r b) hr h)
      clear hd1 r1 hrow hr
      generalize rowV r b = x at *
      generalize rowB r b = t at *
      go_wp2_with fail
      refine (Hx.out).mono ?_
      rintro e w3 ⟨rfl, hb3⟩
      have Hown3 := Lib.hid ((row_below Hown.out hb3).alloc (.cells #[.int .i64 x.n.a, .int .i64 x.n.b, .int .i64 x.n.c, .int .i64 x.n.d, .int .i64 x.e] 70))
      have Hb3 := Lib.hid (Hb.out.trans (hb3.mono hs))
      have hs3 := Hb3.out.size
      have hsz3 := Nat.le_trans hsz hb3.size
      have Hbx := Lib.hid (heap_alloc_new w3 (.cells #[.int .i64 x.n.a, .int .i64 x.n.b, .int .i64 x.n.c, .int .i64 x.n.d, .int .i64 x.e] 70))
      obtain ⟨q0, q1, q2, q3, q4⟩ := blk_cells5 Hbx.out
      clear hb3 Hown Hb Hx c0
      cases t with
      | false =>
        have hS : (M.all fun r => rowB r b) = false := Hno.out rfl
        obtain rfl : SB = false := HSB.out.trans hS
        obtain rfl : SL = [] := HSL.out
        go_wp2_with fail
        go_returns
        exact ⟨⟨_, rfl, DSl.nil⟩, by have := Hb3.out; go_grown⟩
      | true =>
        go_wp2_with (first
          | (at_builtin; refine wpList_append_own _ rfl _ _ 59 rfl w2.heap.size 70 i0 (.agg #[.int .i64 0, .int .i64 0, .int .i64 0, .int .i64 0, .int .i64 0]) 5 40 Tryz.underlying59 hi hz0 hz1 hz2 rfl (by decide) _ _ _ rfl (Hown3.out.alloc _) ⟨w3.heap.size + 1, 0, none⟩ 1 1 (fl x) rfl rfl (by simpa using fl_new (w3.alloc (.cells #[.int .i64 x.n.a, .int .i64 x.n.b, .int .i64 x.n.c, .int .i64 x.n.d, .int .i64 x.e] 70)) x 70) (fl_plain _) ?d3 ?d4 ?d5 ?_))
        case d3 => unfold maxLen; omega
        case d4 => omega
        case d5 => first | omega | (simp; omega) | (simp; omega)
        intro v' w4 hown' hgrow _
        have HB4 := Lib.hid (((Hb3.out.alloc hs3 (.cells #[.int .i64 x.n.a, .int .i64 x.n.b, .int .i64 x.n.c, .int .i64 x.n.d, .int .i64 x.e] 70)).alloc (by simp; omega) (.cells #[.int .i64 x.n.a, .int .i64 x.n.b, .int .i64 x.n.c, .int .i64 x.n.d, .int .i64 x.e] 70)).grown hgrow (by simp; omega) (fun q hq => by have := Hown3.out.lt q hq; omega))
        have hsz4 : w2.heap.size ≤ w4.heap.size := by have := hgrow.size; simp at this; omega
        rw [Hstep.out] at hown'
        have Hown4 := Lib.hid hown'
        clear hown' hgrow
        go_wp2_with fail
        go_roundg (M.length - (j + 1))
        case measure => omega
        case rel => exact ⟨j + 1, rfl, by omega, by go_num, Hown4.out, Lib.hid Hat.out, HB4, hsz4⟩
    · obtain rfl : j = M.length := by omega
      have hall := Hall.out
      rw [List.take_length] at hall
      obtain rfl : SB = true := HSB.out.trans hall
      obtain rfl : SL = M.map (fun r => rowV r b) := HSL.out
      have hown := Hown.out
      rw [show M.length = (M.map fun r => rowV r b).length by rw [List.length_map], List.take_length] at hown
      have Hd := Lib.hid ((DSl.of_own hown).mono hs2)
      clear hown
      go_wp2_with fail
      go_returns
      exact ⟨⟨_, rfl, Hd.out⟩, Hb.out⟩
set_option maxRecDepth 100000 in
set_option maxHeartbeats 1600000 in
theorem sapply_no0 (B C D : Nat) (v u : Value) (M : List (List Dw)) (b : List Dw) (w : World) (hv : DSM w B C v M) (hu : DSl w D u b) (hn : M.length ≤ 1048576) (hm : amps M ≤ 1048576) (hM : mtB M = false) :
    Calls Tryz.prog 86 #[v, u] w fun e w' => (∃ r, e = .returned (.tuple #[r, .bool false]) ∧ DSl w' w.heap.size r []) ∧ Below w.heap.size w w' := by
  have H1 := Lib.hid (svalidMt B C v M w hv hn hm)
  rw [hM] at H1
  clear hM
  obtain ⟨a, cap, rfl, -, -⟩ := hv
  obtain ⟨a', cap', rfl, -, -⟩ := hu
  go_enter Tryz.func86, Tryz.ntmps86
  go_wp2_with fail
  refine (H1.out).mono ?_
  rintro e w1 ⟨rfl, hb1⟩
  have Hb1 := Lib.hid hb1
  have hs1 := hb1.size
  clear hb1
  go_wp2_with fail
  go_returns
  exact ⟨⟨_, rfl, DSl.nil⟩, by have := Hb1.out; go_grown⟩
set_option maxRecDepth 100000 in
set_option maxHeartbeats 1600000 in
theorem sapply_no1 (B C D : Nat) (v u : Value) (M : List (List Dw)) (b : List Dw) (w : World) (hv : DSM w B C v M) (hu : DSl w D u b) (hn : M.length ≤ 1048576) (hn' : b.length ≤ 1048576) (hm : amps M ≤ 1048576) (hM : mtB M = true) (hb : stB b = false) :
    Calls Tryz.prog 86 #[v, u] w fun e w' => (∃ r, e = .returned (.tuple #[r, .bool false]) ∧ DSl w' w.heap.size r []) ∧ Below w.heap.size w w' := by
  have H1 := Lib.hid (svalidMt B C v M w hv hn hm)
  have H2 := Lib.hid (fun W (h : DSl W D u b) => svalidSt D u b W h hn')
  have Hu := Lib.hid hu
  rw [hM] at H1
  rw [hb] at H2
  clear hM hb
  obtain ⟨a, cap, rfl, -, -⟩ := hv
  obtain ⟨a', cap', rfl, -, -⟩ := hu
  go_enter Tryz.func86, Tryz.ntmps86
  go_wp2_with fail
  refine (H1.out).mono ?_
  rintro e w1 ⟨rfl, hb1⟩
  have Hb1 := Lib.hid hb1
  have Hu1 := Lib.hid (Hu.out.below hb1)
  clear hb1
  go_wp2_with fail
  refine (H2.out _ Hu1.out).mono ?_
  rintro e w2 ⟨rfl, hb2⟩
  have Hb2 := Lib.hid (Hb1.out.trans (hb2.mono Hb1.out.size))
  have hs2 := Hb2.out.size
  clear hb2
  go_wp2_with fail
  go_returns
  exact ⟨⟨_, rfl, DSl.nil⟩, by have := Hb2.out; go_grown⟩
set_option maxRecDepth 100000 in
set_option maxHeartbeats 1600000 in
theorem sapply_no2 (B C D : Nat) (v u : Value) (M : List (List Dw)) (b : List Dw) (w : World) (hv : DSM w B C v M) (hu : DSl w D u b) (hn : M.length ≤ 1048576) (hn' : b.length ≤ 1048576) (hm : amps M ≤ 1048576) (hM : mtB M = true) (hb : stB b = true) (hne : M.length ≠ b.length) :
    Calls Tryz.prog 86 #[v, u] w fun e w' => (∃ r, e = .returned (.tuple #[r, .bool false]) ∧ DSl w' w.heap.size r []) ∧ Below w.heap.size w w' := by
  have H1 := Lib.hid (svalidMt B C v M w hv hn hm)
  have H2 := Lib.hid (fun W (h : DSl W D u b) => svalidSt D u b W h hn')
  have Hu := Lib.hid hu
  rw [hM] at H1
  rw [hb] at H2
  clear hM hb
  obtain ⟨a, cap, rfl, -, -⟩ := hv
  obtain ⟨a', cap', rfl, -, -⟩ := hu
  have hd2 : ((M.length : Int) != b.length) = true := by simp; omega
  go_enter Tryz.func86, Tryz.ntmps86
  go_wp2_with fail
  refine (H1.out).mono ?_
  rintro e w1 ⟨rfl, hb1⟩
  have Hb1 := Lib.hid hb1
  have Hu1 := Lib.hid (Hu.out.below hb1)
  clear hb1
  go_wp2_with fail
  refine (H2.out _ Hu1.out).mono ?_
  rintro e w2 ⟨rfl, hb2⟩
  have Hb2 := Lib.hid (Hb1.out.trans (hb2.mono Hb1.out.size))
  have hs2 := Hb2.out.size
  clear hb2
  go_wp2_with fail
  go_returns
  exact ⟨⟨_, rfl, DSl.nil⟩, by have := Hb2.out; go_grown⟩
theorem sapply (B C D : Nat) (v u : Value) (M : List (List Dw)) (b : List Dw) (w : World) (hv : DSM w B C v M) (hu : DSl w D u b) (hn : M.length ≤ 1048576) (hn' : b.length ≤ 1048576) (hm : amps M ≤ 1048576) :
    Calls Tryz.prog 86 #[v, u] w fun e w' => (∃ r, e = .returned (.tuple #[r, .bool (appB M b)]) ∧ DSl w' w.heap.size r (appL M b)) ∧ Below w.heap.size w w' := by
  have hno : appB M b = false → appL M b = [] := fun h => if_neg (by rw [h]; decide)
  cases hM : mtB M with
  | false =>
    have h : appB M b = false := by unfold appB; rw [hM]; rfl
    rw [hno h, h]; exact sapply_no0 B C D v u M b w hv hu hn hm hM
  | true =>
    cases hb : stB b with
    | false =>
      have h : appB M b = false := by unfold appB; rw [hM, hb]; rfl
      rw [hno h, h]; exact sapply_no1 B C D v u M b w hv hu hn hn' hm hM hb
    | true =>
      by_cases hl : M.length = b.length
      · exact sapply_yes B C D v u M b w hv hu hM hb hl hm
      · have h : appB M b = false := by unfold appB; rw [hM, hb, decide_eq_false hl]; rfl
        rw [hno h, h]; exact sapply_no2 B C D v u M b w hv hu hn hn' hm hM hb hl
end Go.Proofs.YtlmiebeffdcfhaaGreat
namespace Go.Proofs.YtlmiebeffdcfhaaGreat
open Go.RowKit
theorem mulMB_of {A B : List (List Dw)} (hA : mtB A = true) (hB : mtB B = true) (hl : A.length = B.length) : mulMB A B = (List.range B.length).all fun k => appB A (col B k) := by
  unfold mulMB; rw [hA, hB, decide_eq_true hl]; rfl
theorem mulML_len (A B : List (List Dw)) : (mulML A B).length = B.length := by rw [mulML, List.length_map, List.length_range]
theorem mulML_step {A B : List (List Dw)} {j : Nat} (hj : j < B.length) : (mulML A B).take (j + 1) = (mulML A B).take j ++ [appL A (col B j)] := by
  rw [List.take_add_one, mulML, List.getElem?_map, List.getElem?_range hj]
  rfl
attribute [local irreducible] World.cell?
set_option maxRecDepth 100000 in
set_option maxHeartbeats 3200000 in
theorem smulM_yes (P Q R S : Nat) (v u : Value) (A B : List (List Dw)) (w : World) (hv : DSM w P Q v A) (hu : DSM w R S u B) (hA : mtB A = true) (hB : mtB B = true) (hl : A.length = B.length) (hm : amps A ≤ 1048576) (hm' : amps B ≤ 1048576) :
    Calls Tryz.prog 56 #[v, u] w fun e w' => (∃ r, e = .returned (.tuple #[r, .bool (mulMB A B)]) ∧ DSM w' w.heap.size w'.heap.size r (mulM A B)) ∧ Below w.heap.size w w' := by
  obtain ⟨i0, hi, hz0, hz1, hz2⟩ := info_parts infoDs
  have hlen := mtB_len hB
  have H1 := Lib.hid (svalidMt P Q v A w hv (by omega) hm)
  have H2 := Lib.hid (fun W (h : DSM W R S u B) => svalidMt R S u B W h (by omega) hm')
  rw [hA] at H1
  rw [hB] at H2
  have Hv := Lib.hid hv
  have Hu := Lib.hid hu
  have Hcol := Lib.hid (fun (k : Nat) (hk : k < B.length) W (h : DSM W R S u B) => scolumn R S u B k W h (fun r hr => by rw [((mtB_iff.1 hB).2 r hr).1]; exact hk) (by omega) (by omega))
  have Happ := Lib.hid (fun (k : Nat) (c : Value) (D : Nat) W (h : DSM W P Q v A) (h' : DSl W D c (col B k)) => sapply P Q D v c A (col B k) W h h' (by omega) (by rw [col_len]; omega) hm)
  have hMB := mulMB_of hA hB hl
  obtain ⟨SB, hSB⟩ : ∃ SB, SB = mulMB A B := ⟨_, rfl⟩
  obtain ⟨SL, hSL⟩ : ∃ SL, SL = mulM A B := ⟨_, rfl⟩
  rw [← hSB, ← hSL]
  have HSB := Lib.hid (hSB.trans hMB)
  have HSL := Lib.hid (show SL = if SB then colsM (mulML A B) else [] by rw [hSB]; exact hSL)
  have Hlen := Lib.hid (fun (k : Nat) (h : appB A (col B k) = true) => (appL_len h).trans hl)
  clear hMB hSB hSL hA hB
  obtain ⟨a, cap, rfl, hcap, -⟩ := hv
  obtain ⟨a', cap', rfl, hcap', -⟩ := hu
  rw [hl] at Happ H1 hcap Hv ⊢
  clear hl
  have hd2 : ((B.length : Int) != B.length) = false := by simp
  go_enter Tryz.func56, Tryz.ntmps56
  go_wp2_with fail
  refine (H1.out).mono ?_
  rintro e w1 ⟨rfl, hb1⟩
  have Hb1 := Lib.hid hb1
  have Hu1 := Lib.hid (Hu.out.below hb1)
  clear hb1
  go_wp2_with fail
  refine (H2.out _ Hu1.out).mono ?_
  rintro e w2 ⟨rfl, hb2⟩
  have Hb2 := Lib.hid (Hb1.out.trans (hb2.mono Hb1.out.size))
  have hs2 := Hb2.out.size
  clear hb2 Hb1 Hu1 H1 H2
  go_wp2_with fail
  go_loopg [6, 7] B.length (fun n out i wr => ∃ (j : Nat) (vs : List Value), n = B.length - j ∧ j ≤ B.length ∧ i = .int .i64 j ∧ Hid (wr.ownsRow w2.heap.size 59 1 out j vs) ∧ Hid (RwS wr w2.heap.size wr.heap.size vs ((mulML A B).take j)) ∧ Hid (∀ k, k < j → appB A (col B k) = true) ∧ Hid (Below w.heap.size w wr) ∧ w2.heap.size ≤ wr.heap.size)
  case atStart => exact ⟨0, [], rfl, Nat.zero_le _, rfl, ownM_new rfl, RwS.nil, Lib.hid (fun k hk => absurd hk (Nat.not_lt_zero _)), Lib.hid (Hb2.out.alloc hs2 _), by simp⟩
  case round =>
    obtain ⟨j, vs, rfl, hj, rfl, Hown, Hrows, Hall, Hb, hsz⟩ := hrel
    have hs := Hb.out.size
    by_cases hlt : j < B.length
    · have Hc := Lib.hid (Hcol.out j hlt wr (Hu.out.block fun k _ _ hk => Hb.out.block k hk))
      have Hap := Lib.hid (fun c D W => Happ.out j c D W)
      have Hst := Lib.hid (mulML_step (A := A) hlt)
      have Hln := Lib.hid (Hlen.out j)
      have Hat := Lib.hid (fun (h : appB A (col B j) = true) k (hk : k < j + 1) => by
        rcases Nat.lt_succ_iff_lt_or_eq.1 hk with h' | rfl
        · exact Hall.out k h'
        · exact h)
      have Hno := Lib.hid (fun (h : appB A (col B j) = false) => (show ((List.range B.length).all fun k => appB A (col B k)) = false from by
        rw [List.all_eq_false]; exact ⟨j, List.mem_range.2 hlt, by rw [h]; decide⟩))
      generalize appB A (col B j) = t at *
      generalize appL A (col B j) = r at *
      go_wp2_with fail
      refine (Hc.out).mono ?_
      rintro e w3 ⟨c, rfl, hdc, hb3⟩
      have Hv3 := Lib.hid (Hv.out.block fun k _ _ hk => (hb3.block k (by omega)).trans (Hb.out.block k hk))
      have Hc3 := Lib.hid (Hap.out c _ w3 Hv3.out hdc)
      have Hb3 := Lib.hid (Hb.out.trans (hb3.mono hs))
      have Hown3 := Lib.hid (row_below Hown.out hb3)
      have Hrows3 := Lib.hid ((Hrows.out.block fun k _ _ hk => hb3.block k hk).mono (Nat.le_refl _) hb3.size)
      have hs3 := Hb3.out.size
      have hsz3 := Nat.le_trans hsz hb3.size
      clear hb3 hdc Hown Hrows Hb Hc Hv3
      go_wp2_with fail
      refine (Hc3.out).mono ?_
      rintro e w4 ⟨⟨q, rfl, hdq⟩, hb4⟩
      have Hown4 := Lib.hid (row_below Hown3.out hb4)
      have Hrows4 := Lib.hid (Hrows3.out.upto.snoc hdq.upto hsz3 hb4.size fun k _ _ hk => hb4.block k hk)
      have Hb4 := Lib.hid (Hb3.out.trans (hb4.mono hs3))
      have hs4 := Hb4.out.size
      have hsz4 := Nat.le_trans hsz3 hb4.size
      obtain ⟨p, pc, rfl, -, -⟩ := hdq
      clear hb4 Hown3 Hrows3 Hb3 Hc3
      cases t with
      | false =>
        obtain rfl : SB = false := HSB.out.trans (Hno.out rfl)
        obtain rfl : SL = [] := HSL.out
        go_wp2_with fail
        go_returns
        exact ⟨⟨_, rfl, DSM.nil⟩, by have := Hb4.out; go_grown⟩
      | true =>
        rw [← Hst.out] at Hrows4
        go_wp2_with (first
          | (at_builtin; refine wpList_append_own _ rfl _ _ 32 rfl w2.heap.size 59 i0 (.slice none 0 0) 1 24 Tryz.underlying32 hi hz0 hz1 hz2 rfl (by decide) _ _ _ rfl (Hown4.out.alloc _) ⟨w4.heap.size, 0, none⟩ 1 1 [.slice p r.length pc] rfl rfl (slice_new _ _ _) (by intro u hu; simp at hu; subst hu; rfl) ?d3 ?d4 ?d5 ?_))
        case d3 => unfold maxLen; omega
        case d4 => omega
        case d5 => first | omega | (simp; omega)
        intro v' w5 hown' hgrow _
        have HB5 := Lib.hid ((Hb4.out.alloc hs4 (.cells #[.slice p r.length pc] 59)).grown hgrow (by simp; omega) (fun q hq => by have := Hown4.out.lt q hq; omega))
        have Hrows5 := Lib.hid (((Hrows4.out.block fun k _ _ hk => Below.heap_alloc _ _ _ hk).grown (Hown4.out.alloc _) hgrow).upto)
        have hsz5 : w2.heap.size ≤ w5.heap.size := by have := hgrow.size; simp at this; omega
        have Hown5 := Lib.hid hown'
        clear hown' hgrow
        go_wp2_with fail
        go_roundg (B.length - (j + 1))
        case measure => omega
        case rel => exact ⟨j + 1, _, rfl, by omega, by go_num, Hown5.out, Hrows5, Lib.hid (Hat.out trivial), HB5, hsz5⟩
    · obtain rfl : j = B.length := by omega
      have hall : ((List.range B.length).all fun k => appB A (col B k)) = true := by
        rw [List.all_eq_true]; exact fun k hk => Hall.out k (List.mem_range.1 hk)
      obtain rfl : SB = true := HSB.out.trans hall
      obtain rfl : SL = colsM (mulML A B) := HSL.out
      have hown := Hown.out
      have hrows := Hrows.out
      rw [List.take_of_length_le (by rw [mulML_len]; exact Nat.le_refl _)] at hrows
      rw [show B.length = (mulML A B).length from (mulML_len A B).symm] at hown
      have hd := DSM.of_own hown hrows (Nat.le_refl _)
      have Hcs := Lib.hid (scolumns _ _ _ _ wr hd (fun r hr => by
        obtain ⟨k, hk, rfl⟩ := List.mem_map.1 hr
        rw [mulML_len, Hlen.out k (Hall.out k (List.mem_range.1 hk))]
        exact Nat.le_refl _) (by rw [mulML_len]; omega))
      clear hown hrows hd
      go_wp2_with fail
      refine (Hcs.out).mono ?_
      rintro e w6 ⟨q, rfl, hdq, hb6⟩
      have Hdq := Lib.hid (hdq.mono (D := w.heap.size) (E := w6.heap.size) hs (Nat.le_refl _))
      have Hb6 := Lib.hid (Hb.out.trans (hb6.mono hs))
      clear hb6 hdq
      go_wp2_with fail
      go_returns
      exact ⟨⟨_, rfl, Hdq.out⟩, Hb6.out⟩
set_option maxRecDepth 100000 in
set_option maxHeartbeats 1600000 in
theorem smulM_no0 (P Q R S : Nat) (v u : Value) (M N : List (List Dw)) (w : World) (hv : DSM w P Q v M) (hu : DSM w R S u N) (hn : M.length ≤ 1048576) (hm : amps M ≤ 1048576) (hM : mtB M = false) :
    Calls Tryz.prog 56 #[v, u] w fun e w' => (∃ r, e = .returned (.tuple #[r, .bool false]) ∧ DSM w' w.heap.size w'.heap.size r []) ∧ Below w.heap.size w w' := by
  have H1 := Lib.hid (svalidMt P Q v M w hv hn hm)
  rw [hM] at H1
  clear hM
  obtain ⟨a, cap, rfl, -, -⟩ := hv
  obtain ⟨a', cap', rfl, -, -⟩ := hu
  go_enter Tryz.func56, Tryz.ntmps56
  go_wp2_with fail
  refine (H1.out).mono ?_
  rintro e w1 ⟨rfl, hb1⟩
  have Hb1 := Lib.hid hb1
  have hs1 := hb1.size
  clear hb1
  go_wp2_with fail
  go_returns
  exact ⟨⟨_, rfl, DSM.nil⟩, by have := Hb1.out; go_grown⟩
set_option maxRecDepth 100000 in
set_option maxHeartbeats 1600000 in
theorem smulM_no1 (P Q R S : Nat) (v u : Value) (M N : List (List Dw)) (w : World) (hv : DSM w P Q v M) (hu : DSM w R S u N) (hn : M.length ≤ 1048576) (hn' : N.length ≤ 1048576) (hm : amps M ≤ 1048576) (hm' : amps N ≤ 1048576) (hM : mtB M = true) (hb : mtB N = false) :
    Calls Tryz.prog 56 #[v, u] w fun e w' => (∃ r, e = .returned (.tuple #[r, .bool false]) ∧ DSM w' w.heap.size w'.heap.size r []) ∧ Below w.heap.size w w' := by
  have H1 := Lib.hid (svalidMt P Q v M w hv hn hm)
  have H2 := Lib.hid (fun W (h : DSM W R S u N) => svalidMt R S u N W h hn' hm')
  have Hu := Lib.hid hu
  rw [hM] at H1
  rw [hb] at H2
  clear hM hb
  obtain ⟨a, cap, rfl, -, -⟩ := hv
  obtain ⟨a', cap', rfl, -, -⟩ := hu
  go_enter Tryz.func56, Tryz.ntmps56
  go_wp2_with fail
  refine (H1.out).mono ?_
  rintro e w1 ⟨rfl, hb1⟩
  have Hb1 := Lib.hid hb1
  have Hu1 := Lib.hid (Hu.out.below hb1)
  clear hb1
  go_wp2_with fail
  refine (H2.out _ Hu1.out).mono ?_
  rintro e w2 ⟨rfl, hb2⟩
  have Hb2 := Lib.hid (Hb1.out.trans (hb2.mono Hb1.out.size))
  have hs2 := Hb2.out.size
  clear hb2
  go_wp2_with fail
  go_returns
  exact ⟨⟨_, rfl, DSM.nil⟩, by have := Hb2.out; go_grown⟩
set_option maxRecDepth 100000 in
set_option maxHeartbeats 1600000 in
theorem smulM_no2 (P Q R S : Nat) (v u : Value) (M N : List (List Dw)) (w : World) (hv : DSM w P Q v M) (hu : DSM w R S u N) (hn : M.length ≤ 1048576) (hn' : N.length ≤ 1048576) (hm : amps M ≤ 1048576) (hm' : amps N ≤ 1048576) (hM : mtB M = true) (hb : mtB N = true) (hne : M.length ≠ N.length) :
    Calls Tryz.prog 56 #[v, u] w fun e w' => (∃ r, e = .returned (.tuple #[r, .bool false]) ∧ DSM w' w.heap.size w'.heap.size r []) ∧ Below w.heap.size w w' := by
  have H1 := Lib.hid (svalidMt P Q v M w hv hn hm)
  have H2 := Lib.hid (fun W (h : DSM W R S u N) => svalidMt R S u N W h hn' hm')
  have Hu := Lib.hid hu
  rw [hM] at H1
  rw [hb] at H2
  clear hM hb
  obtain ⟨a, cap, rfl, -, -⟩ := hv
  obtain ⟨a', cap', rfl, -, -⟩ := hu
  have hd2 : ((M.length : Int) != N.length) = true := by simp; omega
  go_enter Tryz.func56, Tryz.ntmps56
  go_wp2_with fail
  refine (H1.out).mono ?_
  rintro e w1 ⟨rfl, hb1⟩
  have Hb1 := Lib.hid hb1
  have Hu1 := Lib.hid (Hu.out.below hb1)
  clear hb1
  go_wp2_with fail
  refine (H2.out _ Hu1.out).mono ?_
  rintro e w2 ⟨rfl, hb2⟩
  have Hb2 := Lib.hid (Hb1.out.trans (hb2.mono Hb1.out.size))
  have hs2 := Hb2.out.size
  clear hb2
  go_wp2_with fail
  go_returns
  exact ⟨⟨_, rfl, DSM.nil⟩, by have := Hb2.out; go_grown⟩
theorem smulM (P Q R S : Nat) (v u : Value) (A B : List (List Dw)) (w : World) (hv : DSM w P Q v A) (hu : DSM w R S u B) (hn : A.length ≤ 1048576) (hn' : B.length ≤ 1048576) (hm : amps A ≤ 1048576) (hm' : amps B ≤ 1048576) :
    Calls Tryz.prog 56 #[v, u] w fun e w' => (∃ r, e = .returned (.tuple #[r, .bool (mulMB A B)]) ∧ DSM w' w.heap.size w'.heap.size r (mulM A B)) ∧ Below w.heap.size w w' := by
  have hno : mulMB A B = false → mulM A B = [] := fun h => if_neg (by rw [h]; decide)
  cases hA : mtB A with
  | false =>
    have h : mulMB A B = false := by unfold mulMB; rw [hA]; rfl
    rw [hno h, h]; exact smulM_no0 P Q R S v u A B w hv hu hn hm hA
  | true =>
    cases hB : mtB B with
    | false =>
      have h : mulMB A B = false := by unfold mulMB; rw [hA, hB]; rfl
      rw [hno h, h]; exact smulM_no1 P Q R S v u A B w hv hu hn hn' hm hm' hA hB
    | true =>
      by_cases hl : A.length = B.length
      · exact smulM_yes P Q R S v u A B w hv hu hA hB hl hm hm'
      · have h : mulMB A B = false := by unfold mulMB; rw [hA, hB, decide_eq_false hl]; rfl
        rw [hno h, h]; exact smulM_no2 P Q R S v u A B w hv hu hn hn' hm hm' hA hB hl
end Go.Proofs.YtlmiebeffdcfhaaGreat
namespace Go.Proofs.YtlmiebeffdcfhaaGreat
open Go.RowKit
theorem idM_yes {n : Int} (h : 1 ≤ n ∧ n ≤ 4) : idM n = (List.range (2 ^ n.toNat)).map fun (i : Nat) => basisL n (i : Int) := if_pos h
theorem idM_no {n : Int} (h : ¬ (1 ≤ n ∧ n ≤ 4)) : idM n = [] := if_neg h
theorem idM_len {n : Int} (h : 1 ≤ n ∧ n ≤ 4) : (idM n).length = 2 ^ n.toNat := by rw [idM_yes h, List.length_map, List.length_range]
theorem idM_step {n : Int} (h : 1 ≤ n ∧ n ≤ 4) {j : Nat} (hj : j < 2 ^ n.toNat) : (idM n).take (j + 1) = (idM n).take j ++ [basisL n (j : Int)] := by
  rw [List.take_add_one, idM_yes h, List.getElem?_map, List.getElem?_range hj]
  rfl
attribute [local irreducible] World.cell?
set_option maxRecDepth 100000 in
set_option maxHeartbeats 1600000 in
theorem sident1 (w : World) :
    Calls Tryz.prog 55 #[.int .i64 1] w fun e w' => ∃ u, e = .returned u ∧ DSM w' w.heap.size w'.heap.size u (idM 1) ∧ Below w.heap.size w w' := by
  obtain ⟨i0, hi, hz0, hz1, hz2⟩ := info_parts infoDs
  have H1 := Lib.hid (fun w => lin_any 1 1 4 true w (by decide))
  have Hb0 := Lib.hid (fun (j : Nat) w => sbasis 1 j w)
  go_enter Tryz.func55, Tryz.ntmps55
  go_wp2_with fail
  go_loopg [3, 4] 2 (fun n out i wr => ∃ (j : Nat) (vs : List Value), n = 2 - j ∧ j ≤ 2 ∧ i = .int .i64 j ∧ Hid (wr.ownsRow w.heap.size 59 1 out j vs) ∧ Hid (RwS wr w.heap.size wr.heap.size vs ((idM 1).take j)) ∧ Hid (Below w.heap.size w wr))
  case atStart => exact ⟨0, [], rfl, Nat.zero_le _, rfl, ownM_new rfl, RwS.nil, (Below.refl _ _).alloc (Nat.le_refl _) _⟩
  case round =>
    obtain ⟨j, vs, rfl, hj, rfl, Hown, Hrows, Hb⟩ := hrel
    by_cases hlt : j < 2
    · have hs := Hb.out.size
      have hlt' : (j : Int) < 2 := by omega
      have Hstep := Lib.hid (idM_step (n := 1) (by decide) (j := j) hlt)
      go_wp2_with fail
      refine (H1.out _).mono ?_
      rintro e w1 ⟨rfl, rfl⟩
      go_wp2_with fail
      refine (Hb0.out j _).mono ?_
      rintro e w2 ⟨u, rfl, hd, hb2⟩
      have Hown2 := Lib.hid (row_below Hown.out hb2)
      have Hrows2 := Lib.hid (Hrows.out.snoc hd.upto hs hb2.size fun k _ _ hk => hb2.block k hk)
      have Hb2 := Lib.hid (Hb.out.trans (hb2.mono hs))
      have hs2 := Hb2.out.size
      obtain ⟨p, pc, rfl, -, -⟩ := hd
      clear hb2 Hown Hrows Hb
      generalize basisL 1 (j : Int) = r at *
      go_wp2_with (first
        | (at_builtin; refine wpList_append_own _ rfl _ _ 32 rfl w.heap.size 59 i0 (.slice none 0 0) 1 24 Tryz.underlying32 hi hz0 hz1 hz2 rfl (by decide) _ _ _ rfl (Hown2.out.alloc _) ⟨w2.heap.size, 0, none⟩ 1 1 [.slice p r.length pc] rfl rfl (slice_new _ _ _) (by intro u hu; simp at hu; subst hu; rfl) ?d3 ?d4 ?d5 ?_))
      case d3 => unfold maxLen; omega
      case d4 => omega
      case d5 => first | omega | (simp; omega)
      intro v' w4 hown' hgrow _
      have HB4 := Lib.hid ((Hb2.out.alloc hs2 (.cells #[.slice p r.length pc] 59)).grown hgrow (by simp; omega) (fun q hq => by have := Hown2.out.lt q hq; omega))
      have Hrows4 := Lib.hid (((Hrows2.out.block fun k _ _ hk => Below.heap_alloc _ _ _ hk).grown (Hown2.out.alloc _) hgrow).upto)
      have Hown4 := Lib.hid hown'
      clear hown' hgrow
      rw [← Hstep.out] at Hrows4
      go_wp2_with fail
      go_roundg (2 - (j + 1))
      case measure => omega
      case rel => exact ⟨j + 1, _, rfl, by omega, by go_num, Hown4.out, Hrows4, HB4⟩
    · obtain rfl : j = 2 := by omega
      have hrows := Hrows.out
      rw [List.take_of_length_le (by rw [idM_len (by decide)]; decide)] at hrows
      have Hd := Lib.hid (DSM.of_own (M := idM 1) (by rw [idM_len (by decide)]; exact Hown.out) hrows (Nat.le_refl _))
      clear hrows
      go_wp2_with fail
      refine (H1.out _).mono ?_
      rintro e w1 ⟨rfl, rfl⟩
      go_wp2_with fail
      go_ret
      exact ⟨_, rfl, Hd.out, Hb.out⟩
set_option maxRecDepth 100000 in
set_option maxHeartbeats 1600000 in
theorem sident2 (w : World) :
    Calls Tryz.prog 55 #[.int .i64 2] w fun e w' => ∃ u, e = .returned u ∧ DSM w' w.heap.size w'.heap.size u (idM 2) ∧ Below w.heap.size w w' := by
  obtain ⟨i0, hi, hz0, hz1, hz2⟩ := info_parts infoDs
  have H1 := Lib.hid (fun w => lin_any 2 1 4 true w (by decide))
  have Hb0 := Lib.hid (fun (j : Nat) w => sbasis 2 j w)
  go_enter Tryz.func55, Tryz.ntmps55
  go_wp2_with fail
  go_loopg [3, 4] 4 (fun n out i wr => ∃ (j : Nat) (vs : List Value), n = 4 - j ∧ j ≤ 4 ∧ i = .int .i64 j ∧ Hid (wr.ownsRow w.heap.size 59 1 out j vs) ∧ Hid (RwS wr w.heap.size wr.heap.size vs ((idM 2).take j)) ∧ Hid (Below w.heap.size w wr))
  case atStart => exact ⟨0, [], rfl, Nat.zero_le _, rfl, ownM_new rfl, RwS.nil, (Below.refl _ _).alloc (Nat.le_refl _) _⟩
  case round =>
    obtain ⟨j, vs, rfl, hj, rfl, Hown, Hrows, Hb⟩ := hrel
    by_cases hlt : j < 4
    · have hs := Hb.out.size
      have hlt' : (j : Int) < 4 := by omega
      have Hstep := Lib.hid (idM_step (n := 2) (by decide) (j := j) hlt)
      go_wp2_with fail
      refine (H1.out _).mono ?_
      rintro e w1 ⟨rfl, rfl⟩
      go_wp2_with fail
      refine (Hb0.out j _).mono ?_
      rintro e w2 ⟨u, rfl, hd, hb2⟩
      have Hown2 := Lib.hid (row_below Hown.out hb2)
      have Hrows2 := Lib.hid (Hrows.out.snoc hd.upto hs hb2.size fun k _ _ hk => hb2.block k hk)
      have Hb2 := Lib.hid (Hb.out.trans (hb2.mono hs))
      have hs2 := Hb2.out.size
      obtain ⟨p, pc, rfl, -, -⟩ := hd
      clear hb2 Hown Hrows Hb
      generalize basisL 2 (j : Int) = r at *
      go_wp2_with (first
        | (at_builtin; refine wpList_append_own _ rfl _ _ 32 rfl w.heap.size 59 i0 (.slice none 0 0) 1 24 Tryz.underlying32 hi hz0 hz1 hz2 rfl (by decide) _ _ _ rfl (Hown2.out.alloc _) ⟨w2.heap.size, 0, none⟩ 1 1 [.slice p r.length pc] rfl rfl (slice_new _ _ _) (by intro u hu; simp at hu; subst hu; rfl) ?d3 ?d4 ?d5 ?_))
      case d3 => unfold maxLen; omega
      case d4 => omega
      case d5 => first | omega | (simp; omega)
      intro v' w4 hown' hgrow _
      have HB4 := Lib.hid ((Hb2.out.alloc hs2 (.cells #[.slice p r.length pc] 59)).grown hgrow (by simp; omega) (fun q hq => by have := Hown2.out.lt q hq; omega))
      have Hrows4 := Lib.hid (((Hrows2.out.block fun k _ _ hk => Below.heap_alloc _ _ _ hk).grown (Hown2.out.alloc _) hgrow).upto)
      have Hown4 := Lib.hid hown'
      clear hown' hgrow
      rw [← Hstep.out] at Hrows4
      go_wp2_with fail
      go_roundg (4 - (j + 1))
      case measure => omega
      case rel => exact ⟨j + 1, _, rfl, by omega, by go_num, Hown4.out, Hrows4, HB4⟩
    · obtain rfl : j = 4 := by omega
      have hrows := Hrows.out
      rw [List.take_of_length_le (by rw [idM_len (by decide)]; decide)] at hrows
      have Hd := Lib.hid (DSM.of_own (M := idM 2) (by rw [idM_len (by decide)]; exact Hown.out) hrows (Nat.le_refl _))
      clear hrows
      go_wp2_with fail
      refine (H1.out _).mono ?_
      rintro e w1 ⟨rfl, rfl⟩
      go_wp2_with fail
      go_ret
      exact ⟨_, rfl, Hd.out, Hb.out⟩
set_option maxRecDepth 100000 in
set_option maxHeartbeats 1600000 in
theorem sident3 (w : World) :
    Calls Tryz.prog 55 #[.int .i64 3] w fun e w' => ∃ u, e = .returned u ∧ DSM w' w.heap.size w'.heap.size u (idM 3) ∧ Below w.heap.size w w' := by
  obtain ⟨i0, hi, hz0, hz1, hz2⟩ := info_parts infoDs
  have H1 := Lib.hid (fun w => lin_any 3 1 4 true w (by decide))
  have Hb0 := Lib.hid (fun (j : Nat) w => sbasis 3 j w)
  go_enter Tryz.func55, Tryz.ntmps55
  go_wp2_with fail
  go_loopg [3, 4] 8 (fun n out i wr => ∃ (j : Nat) (vs : List Value), n = 8 - j ∧ j ≤ 8 ∧ i = .int .i64 j ∧ Hid (wr.ownsRow w.heap.size 59 1 out j vs) ∧ Hid (RwS wr w.heap.size wr.heap.size vs ((idM 3).take j)) ∧ Hid (Below w.heap.size w wr))
  case atStart => exact ⟨0, [], rfl, Nat.zero_le _, rfl, ownM_new rfl, RwS.nil, (Below.refl _ _).alloc (Nat.le_refl _) _⟩
  case round =>
    obtain ⟨j, vs, rfl, hj, rfl, Hown, Hrows, Hb⟩ := hrel
    by_cases hlt : j < 8
    · have hs := Hb.out.size
      have hlt' : (j : Int) < 8 := by omega
      have Hstep := Lib.hid (idM_step (n := 3) (by decide) (j := j) hlt)
      go_wp2_with fail
      refine (H1.out _).mono ?_
      rintro e w1 ⟨rfl, rfl⟩
      go_wp2_with fail
      refine (Hb0.out j _).mono ?_
      rintro e w2 ⟨u, rfl, hd, hb2⟩
      have Hown2 := Lib.hid (row_below Hown.out hb2)
      have Hrows2 := Lib.hid (Hrows.out.snoc hd.upto hs hb2.size fun k _ _ hk => hb2.block k hk)
      have Hb2 := Lib.hid (Hb.out.trans (hb2.mono hs))
      have hs2 := Hb2.out.size
      obtain ⟨p, pc, rfl, -, -⟩ := hd
      clear hb2 Hown Hrows Hb
      generalize basisL 3 (j : Int) = r at *
      go_wp2_with (first
        | (at_builtin; refine wpList_append_own _ rfl _ _ 32 rfl w.heap.size 59 i0 (.slice none 0 0) 1 24 Tryz.underlying32 hi hz0 hz1 hz2 rfl (by decide) _ _ _ rfl (Hown2.out.alloc _) ⟨w2.heap.size, 0, none⟩ 1 1 [.slice p r.length pc] rfl rfl (slice_new _ _ _) (by intro u hu; simp at hu; subst hu; rfl) ?d3 ?d4 ?d5 ?_))
      case d3 => unfold maxLen; omega
      case d4 => omega
      case d5 => first | omega | (simp; omega)
      intro v' w4 hown' hgrow _
      have HB4 := Lib.hid ((Hb2.out.alloc hs2 (.cells #[.slice p r.length pc] 59)).grown hgrow (by simp; omega) (fun q hq => by have := Hown2.out.lt q hq; omega))
      have Hrows4 := Lib.hid (((Hrows2.out.block fun k _ _ hk => Below.heap_alloc _ _ _ hk).grown (Hown2.out.alloc _) hgrow).upto)
      have Hown4 := Lib.hid hown'
      clear hown' hgrow
      rw [← Hstep.out] at Hrows4
      go_wp2_with fail
      go_roundg (8 - (j + 1))
      case measure => omega
      case rel => exact ⟨j + 1, _, rfl, by omega, by go_num, Hown4.out, Hrows4, HB4⟩
    · obtain rfl : j = 8 := by omega
      have hrows := Hrows.out
      rw [List.take_of_length_le (by rw [idM_len (by decide)]; decide)] at hrows
      have Hd := Lib.hid (DSM.of_own (M := idM 3) (by rw [idM_len (by decide)]; exact Hown.out) hrows (Nat.le_refl _))
      clear hrows
      go_wp2_with fail
      refine (H1.out _).mono ?_
      rintro e w1 ⟨rfl, rfl⟩
      go_wp2_with fail
      go_ret
      exact ⟨_, rfl, Hd.out, Hb.out⟩
set_option maxRecDepth 100000 in
set_option maxHeartbeats 1600000 in
theorem sident4 (w : World) :
    Calls Tryz.prog 55 #[.int .i64 4] w fun e w' => ∃ u, e = .returned u ∧ DSM w' w.heap.size w'.heap.size u (idM 4) ∧ Below w.heap.size w w' := by
  obtain ⟨i0, hi, hz0, hz1, hz2⟩ := info_parts infoDs
  have H1 := Lib.hid (fun w => lin_any 4 1 4 true w (by decide))
  have Hb0 := Lib.hid (fun (j : Nat) w => sbasis 4 j w)
  go_enter Tryz.func55, Tryz.ntmps55
  go_wp2_with fail
  go_loopg [3, 4] 16 (fun n out i wr => ∃ (j : Nat) (vs : List Value), n = 16 - j ∧ j ≤ 16 ∧ i = .int .i64 j ∧ Hid (wr.ownsRow w.heap.size 59 1 out j vs) ∧ Hid (RwS wr w.heap.size wr.heap.size vs ((idM 4).take j)) ∧ Hid (Below w.heap.size w wr))
  case atStart => exact ⟨0, [], rfl, Nat.zero_le _, rfl, ownM_new rfl, RwS.nil, (Below.refl _ _).alloc (Nat.le_refl _) _⟩
  case round =>
    obtain ⟨j, vs, rfl, hj, rfl, Hown, Hrows, Hb⟩ := hrel
    by_cases hlt : j < 16
    · have hs := Hb.out.size
      have hlt' : (j : Int) < 16 := by omega
      have Hstep := Lib.hid (idM_step (n := 4) (by decide) (j := j) hlt)
      go_wp2_with fail
      refine (H1.out _).mono ?_
      rintro e w1 ⟨rfl, rfl⟩
      go_wp2_with fail
      refine (Hb0.out j _).mono ?_
      rintro e w2 ⟨u, rfl, hd, hb2⟩
      have Hown2 := Lib.hid (row_below Hown.out hb2)
      have Hrows2 := Lib.hid (Hrows.out.snoc hd.upto hs hb2.size fun k _ _ hk => hb2.block k hk)
      have Hb2 := Lib.hid (Hb.out.trans (hb2.mono hs))
      have hs2 := Hb2.out.size
      obtain ⟨p, pc, rfl, -, -⟩ := hd
      clear hb2 Hown Hrows Hb
      generalize basisL 4 (j : Int) = r at *
      go_wp2_with (first
        | (at_builtin; refine wpList_append_own _ rfl _ _ 32 rfl w.heap.size 59 i0 (.slice none 0 0) 1 24 Tryz.underlying32 hi hz0 hz1 hz2 rfl (by decide) _ _ _ rfl (Hown2.out.alloc _) ⟨w2.heap.size, 0, none⟩ 1 1 [.slice p r.length pc] rfl rfl (slice_new _ _ _) (by intro u hu; simp at hu; subst hu; rfl) ?d3 ?d4 ?d5 ?_))
      case d3 => unfold maxLen; omega
      case d4 => omega
      case d5 => first | omega | (simp; omega)
      intro v' w4 hown' hgrow _
      have HB4 := Lib.hid ((Hb2.out.alloc hs2 (.cells #[.slice p r.length pc] 59)).grown hgrow (by simp; omega) (fun q hq => by have := Hown2.out.lt q hq; omega))
      have Hrows4 := Lib.hid (((Hrows2.out.block fun k _ _ hk => Below.heap_alloc _ _ _ hk).grown (Hown2.out.alloc _) hgrow).upto)
      have Hown4 := Lib.hid hown'
      clear hown' hgrow
      rw [← Hstep.out] at Hrows4
      go_wp2_with fail
      go_roundg (16 - (j + 1))
      case measure => omega
      case rel => exact ⟨j + 1, _, rfl, by omega, by go_num, Hown4.out, Hrows4, HB4⟩
    · obtain rfl : j = 16 := by omega
      have hrows := Hrows.out
      rw [List.take_of_length_le (by rw [idM_len (by decide)]; decide)] at hrows
      have Hd := Lib.hid (DSM.of_own (M := idM 4) (by rw [idM_len (by decide)]; exact Hown.out) hrows (Nat.le_refl _))
      clear hrows
      go_wp2_with fail
      refine (H1.out _).mono ?_
      rintro e w1 ⟨rfl, rfl⟩
      go_wp2_with fail
      go_ret
      exact ⟨_, rfl, Hd.out, Hb.out⟩
set_option maxRecDepth 100000 in
set_option maxHeartbeats 1600000 in
theorem sident_no (n : Int) (w : World) (h : ¬ (1 ≤ n ∧ n ≤ 4)) :
    Calls Tryz.prog 55 #[.int .i64 n] w fun e w' => ∃ u, e = .returned u ∧ DSM w' w.heap.size w'.heap.size u (idM n) ∧ Below w.heap.size w w' := by
  have H1 := Lib.hid (fun w => lin_any n 1 4 false w (by simp; omega))
  rw [idM_no h]
  go_enter Tryz.func55, Tryz.ntmps55
  go_wp2_with fail
  go_loopg [3, 4] 0 (fun n out i wr => n = 0 ∧ i = .int .i64 0 ∧ out = .slice (some ⟨w.heap.size, 0, none⟩) 0 0 ∧ Hid (Below w.heap.size w wr))
  case atStart => exact ⟨rfl, rfl, rfl, (Below.refl _ _).alloc (Nat.le_refl _) _⟩
  case round =>
    obtain ⟨rfl, rfl, rfl, Hb⟩ := hrel
    go_wp2_with fail
    refine (H1.out _).mono ?_
    rintro e w1 ⟨rfl, rfl⟩
    go_wp2_with fail
    go_ret
    exact ⟨_, rfl, DSM.nil, Hb.out⟩
theorem sident (n : Int) (w : World) :
    Calls Tryz.prog 55 #[.int .i64 n] w fun e w' => ∃ u, e = .returned u ∧ DSM w' w.heap.size w'.heap.size u (idM n) ∧ Below w.heap.size w w' := by
  by_cases h : 1 ≤ n ∧ n ≤ 4
  · rcases (show n = 1 ∨ n = 2 ∨ n = 3 ∨ n = 4 by omega) with rfl | rfl | rfl | rfl
    · exact sident1 w
    · exact sident2 w
    · exact sident3 w
    · exact sident4 w
  · exact sident_no n w h
end Go.Proofs.YtlmiebeffdcfhaaGreat
namespace Go.Proofs.YtlmiebeffdcfhaaGreat
open Go.RowKit
theorem amps_rect {n : Nat} : ∀ {M : List (List Dw)}, (∀ r ∈ M, r.length = n) → amps M = M.length * n
  | [], _ => by simp [amps]
  | r :: M, h => by
    have h1 := amps_rect (M := M) fun s hs => h s (List.mem_cons_of_mem _ hs)
    have h2 := h r (List.mem_cons_self ..)
    unfold amps at *
    rw [List.map_cons, List.sum_cons, h1, h2, List.length_cons, Nat.succ_mul]
    omega
theorem small_amps {n k : Nat} {M : List (List Dw)} (h : ∀ r ∈ M, r.length = n) (hl : M.length = k) (hk : k ≤ 16) (hn : n ≤ 16) : amps M ≤ 256 := by
  rw [amps_rect h, hl]
  exact Nat.mul_le_mul hk hn
theorem mtB_amps {M : List (List Dw)} (h : mtB M = true) : amps M ≤ 256 := small_amps (fun r hr => ((mtB_iff.1 h).2 r hr).1) rfl (mtB_len h) (mtB_len h)
theorem adjM_amps (M : List (List Dw)) : (adjM M).length ≤ 16 ∧ amps (adjM M) ≤ 256 := by
  cases h : mtB M with
  | false => rw [adjM_no h]; exact ⟨by decide, by decide⟩
  | true =>
    have hl := adjM_len h
    have h16 := mtB_len h
    refine ⟨by omega, small_amps (n := M.length) (fun r hr => ?_) hl h16 h16⟩
    rw [adjM_yes h] at hr
    obtain ⟨i, _, rfl⟩ := List.mem_map.1 hr
    rw [List.length_map, col_len]
theorem mulM_amps (A B : List (List Dw)) : (mulM A B).length ≤ 16 ∧ amps (mulM A B) ≤ 256 := by
  cases h : mulMB A B with
  | false => rw [show mulM A B = [] from if_neg (by rw [h]; decide)]; exact ⟨by decide, by decide⟩
  | true =>
    have hB : mtB B = true := by
      unfold mulMB at h
      simp only [Bool.and_eq_true] at h
      exact h.1.1.2
    have h16 := mtB_len hB
    have hl : (mulM A B).length = B.length := by rw [show mulM A B = colsM (mulML A B) from if_pos h, colsM_len, mulML_len]
    refine ⟨by omega, small_amps (n := B.length) (fun r hr => ?_) hl h16 h16⟩
    rw [show mulM A B = colsM (mulML A B) from if_pos h] at hr
    obtain ⟨i, _, rfl⟩ := List.mem_map.1 hr
    rw [col_len, mulML_len]
theorem basisL_len (n i : Int) : (basisL n i).length ≤ 16 := by
  unfold basisL
  split
  · rename_i h
    rw [List.length_set, List.length_replicate]
    rcases (show n = 1 ∨ n = 2 ∨ n = 3 ∨ n = 4 by omega) with rfl | rfl | rfl | rfl <;> decide
  · exact Nat.zero_le _
theorem amps_le16 : ∀ {M : List (List Dw)}, (∀ r ∈ M, r.length ≤ 16) → amps M ≤ M.length * 16
  | [], _ => by simp [amps]
  | r :: M, h => by
    have h1 := amps_le16 (M := M) fun s hs => h s (List.mem_cons_of_mem _ hs)
    have h2 := h r (List.mem_cons_self ..)
    unfold amps at *
    rw [List.map_cons, List.sum_cons, List.length_cons, Nat.succ_mul]
    omega
theorem idM_amps (n : Int) : (idM n).length ≤ 16 ∧ amps (idM n) ≤ 256 := by
  by_cases h : 1 ≤ n ∧ n ≤ 4
  · have hl := idM_len h
    have h16 : 2 ^ n.toNat ≤ 16 := by rcases (show n = 1 ∨ n = 2 ∨ n = 3 ∨ n = 4 by omega) with rfl | rfl | rfl | rfl <;> decide
    have h2 := amps_le16 (M := idM n) fun r hr => by
      rw [idM_yes h] at hr
      obtain ⟨i, _, rfl⟩ := List.mem_map.1 hr
      exact basisL_len n _
    exact ⟨by omega, by omega⟩
  · rw [idM_no h]; exact ⟨by decide, by decide⟩
attribute [local irreducible] World.cell?
set_option maxRecDepth 100000 in
set_option maxHeartbeats 3200000 in
theorem suni_yes (B C : Nat) (v : Value) (M : List (List Dw)) (w : World) (hv : DSM w B C v M) (hM : mtB M = true) :
    Calls Tryz.prog 21 #[v] w fun e w' => e = .returned (.bool (uniB M)) ∧ Below w.heap.size w w' := by
  have hlen := mtB_len hM
  have ham := mtB_amps hM
  have h0 := (mtB_iff.1 hM).1
  have Hv := Lib.hid hv
  have H1 := Lib.hid (svalidMt B C v M w hv (by omega) (by omega))
  have H2 := Lib.hid (fun W (h : DSM W B C v M) => sadj B C v M W h (by omega) (by omega))
  have ha := adjM_amps M
  have H3 := Lib.hid (fun P Q u W (h : DSM W P Q u (adjM M)) (h' : DSM W B C v M) => smulM P Q B C u v (adjM M) M W h h' (by omega) (by omega) (by omega) (by omega))
  have hmu := mulM_amps (adjM M) M
  have hid := idM_amps (qc M.length)
  have H4 := Lib.hid (fun P Q R S u x W (h : DSM W P Q u (mulM (adjM M) M)) (h' : DSM W R S x (idM (qc M.length))) => sequalMt P Q R S u x (mulM (adjM M) M) (idM (qc M.length)) W h h' (by omega) (by omega) (by omega) (by omega))
  have H5 := Lib.hid (fun W => sident (qc M.length) W)
  have hU : uniB M = (mulMB (adjM M) M && decide (mulM (adjM M) M = idM (qc M.length))) := by unfold uniB; rw [hM]; rfl
  rw [hM] at H1
  obtain ⟨T, hT⟩ : ∃ T, T = uniB M := ⟨_, rfl⟩
  rw [← hT]
  have HT := Lib.hid (hT.trans hU)
  obtain ⟨r, hr⟩ : ∃ r, M[0]? = some r := ⟨M[0], List.getElem?_eq_getElem h0⟩
  have hrl := (mtB_row hM hr).1
  have Hq := Lib.hid (fun a cap W => squbits a M.length cap W)
  clear hT hU hM ha hmu hid
  generalize mulM (adjM M) M = X at *
  generalize mulMB (adjM M) M = t at *
  generalize adjM M = Y at *
  generalize idM (qc M.length) = I at *
  generalize qc M.length = n at *
  obtain ⟨a, cap, rfl, hcap, hg⟩ := hv
  obtain ⟨g, rfl, hgB, hgC, hrow⟩ := hg h0
  have Hrow := Lib.hid hrow
  clear hrow
  go_enter Tryz.func21, Tryz.ntmps21
  go_wp2_with fail
  refine (H1.out).mono ?_
  rintro e w1 ⟨rfl, hb1⟩
  have Hb1 := Lib.hid hb1
  have Ha := Lib.hid (H2.out w1 (Hv.out.below hb1))
  clear hb1 H1 H2
  go_wp2_with fail
  refine (Ha.out).mono ?_
  rintro e w2 ⟨y, rfl, hdy, hb2⟩
  have Hb2 := Lib.hid (Hb1.out.trans (hb2.mono Hb1.out.size))
  have Hm := Lib.hid (H3.out _ _ y w2 hdy (Hv.out.below Hb2.out))
  clear hb2 hdy Ha Hb1 H3
  go_wp2_with fail
  refine (Hm.out).mono ?_
  rintro e w3 ⟨⟨x, rfl, hdx⟩, hb3⟩
  have Hb3 := Lib.hid (Hb2.out.trans (hb3.mono Hb2.out.size))
  have Hdx := Lib.hid hdx
  have r3 := Hrow.out.block (Hb3.out.block _ Hrow.out.lt) fun k _ _ hk => Hb3.out.block k hk
  obtain ⟨p, pc, c0, -⟩ := r3.cell hr
  rw [hrl] at c0
  have hgl := r3.lt
  clear hb3 hdx Hb2 Hm r3
  cases t with
  | false =>
    obtain rfl : T = false := HT.out
    go_wp2_with fail
    go_returns
    exact ⟨rfl, Hb3.out⟩
  | true =>
    go_wp2_with fail
    refine (Hq.out _ _ _).mono ?_
    rintro e w4 ⟨rfl, rfl⟩
    go_wp2_with fail
    refine (H5.out _).mono ?_
    rintro e w5 ⟨z, rfl, hdz, hb5⟩
    have Hb5 := Lib.hid (Hb3.out.trans (hb5.mono Hb3.out.size))
    have He := Lib.hid (H4.out _ _ _ _ x z w5 (Hdx.out.below hb5) hdz)
    clear hb5 hdz Hb3
    have hTe : T = decide (X = I) := HT.out
    rw [← hTe] at He
    clear hTe
    go_wp2_with fail
    refine (He.out).mono ?_
    rintro e w6 ⟨rfl, hb6⟩
    have Hb6 := Lib.hid (Hb5.out.trans (hb6.mono Hb5.out.size))
    clear hb6
    go_wp2_with fail
    go_returns
    exact ⟨rfl, Hb6.out⟩
set_option maxRecDepth 100000 in
set_option maxHeartbeats 1600000 in
theorem suni (B C : Nat) (v : Value) (M : List (List Dw)) (w : World) (hv : DSM w B C v M) (hn : M.length ≤ 1048576) (hm : amps M ≤ 1048576) :
    Calls Tryz.prog 21 #[v] w fun e w' => e = .returned (.bool (uniB M)) ∧ Below w.heap.size w w' := by
  cases hM : mtB M with
  | true => exact suni_yes B C v M w hv hM
  | false =>
    have hU : uniB M = false := by unfold uniB; rw [hM]; rfl
    rw [hU]
    have H1 := Lib.hid (svalidMt B C v M w hv hn hm)
    rw [hM] at H1
    clear hM hU
    obtain ⟨a, cap, rfl, -, -⟩ := hv
    go_enter Tryz.func21, Tryz.ntmps21
    go_wp2_with fail
    refine (H1.out).mono ?_
    rintro e w1 ⟨rfl, hb1⟩
    have Hb1 := Lib.hid hb1
    clear hb1
    go_wp2_with fail
    go_ret
    exact ⟨rfl, Hb1.out⟩
end Go.Proofs.YtlmiebeffdcfhaaGreat
