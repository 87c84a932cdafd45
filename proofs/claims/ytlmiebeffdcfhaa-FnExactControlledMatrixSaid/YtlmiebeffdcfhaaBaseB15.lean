/- BaseB15: several of our texts in one: MtQ MtC MtI. -/
import Derived.Test.YtlmiebeffdcfhaaBaseB08
import Derived.Test.YtlmiebeffdcfhaaMtP
import Derived.Test.YtlmiebeffdcfhaaBaseB06
import Derived.Test.YtlmiebeffdcfhaaBaseB12
import Derived.Test.YtlmiebeffdcfhaaDsC
import Derived.Test.YtlmiebeffdcfhaaBaseB18
namespace Go.Proofs.Ytlmiebeffdcfhaa
open Go.RowKit
attribute [local irreducible] World.cell?
set_option maxRecDepth 100000 in
set_option maxHeartbeats 1600000 in
theorem svalidMt (B C : Nat) (v : Value) (M : List (List Dw)) (w : World) (hv : DSM w B C v M) (hn : M.length ≤ 1048576) (hm : amps M ≤ 1048576) :
    Calls Try.prog 35 #[v] w fun e w' => e = .returned (.bool (mtB M)) ∧ Below w.heap.size w w' := by
  obtain ⟨a, cap, rfl, hcap, hr⟩ := hv
  have Hr := Lib.hid hr
  clear hr
  obtain ⟨R, hR⟩ : ∃ R, R = mtB M := ⟨_, rfl⟩
  rw [← hR]
  have HR := Lib.hid hR
  clear hR
  go_enter Try.func35, Try.ntmps35
  go_wp2_with fail
  go_loopg [3] M.length (fun k i wr => ∃ j : Nat, k = M.length - j ∧ j ≤ M.length ∧ i = .int .i64 j ∧ Hid ((M.take j).all (fun r => decide (r.length = M.length) && stB r) = true) ∧ Hid (Below w.heap.size w wr))
  case atStart => exact ⟨0, rfl, Nat.zero_le _, rfl, rfl, Below.refl _ _⟩
  case round =>
    obtain ⟨j, rfl, hj, rfl, Hall, Hb⟩ := hrel
    by_cases hlt : j < M.length
    · obtain ⟨g, rfl, _, _, hrow⟩ := Hr.out (by omega)
      obtain ⟨r, hr⟩ : ∃ r, M[j]? = some r := ⟨M[j], List.getElem?_eq_getElem hlt⟩
      have r1 := hrow.block (Hb.out.block _ hrow.lt) fun k _ _ hk => Hb.out.block k hk
      obtain ⟨p, pc, c0, hd1⟩ := r1.cell hr
      have Hd1 := Lib.hid hd1.dsl
      have Hat := Lib.hid (all_take (p := fun r => decide (r.length = M.length) && stB r) hr Hall.out)
      have Hno := Lib.hid (fun h => all_no (p := fun r => decide (r.length = M.length) && stB r) hr h)
      have He := Lib.hid (fun W (h1 : DSl W B (.slice p r.length pc) r) => svalidSt B (.slice p r.length pc) r W h1 (by have := amps_row hr; omega))
      have hrl := amps_row hr
      clear hd1 r1 hrow hr
      by_cases hlen : r.length = M.length
      · rw [hlen] at c0 He Hd1
        have Hlen := Lib.hid hlen
        clear hlen hrl
        have hd2 : ((M.length : Int) != M.length) = false := by simp
        cases hs : stB r with
        | false =>
          have hS : mtB M = false := by unfold mtB; rw [Hno.out (by rw [hs]; simp)]; simp
          obtain rfl : R = false := HR.out.trans hS
          rw [hs] at He
          go_wp2_with fail
          refine (He.out _ Hd1.out).mono ?_
          rintro e w2 ⟨rfl, hb2⟩
          have Hb2 := Lib.hid (below_up Hb.out hb2 Hb.out.size)
          clear hb2
          go_wp2_with fail
          go_ret
          exact ⟨rfl, Hb2.out⟩
        | true =>
          rw [hs] at He
          go_wp2_with fail
          refine (He.out _ Hd1.out).mono ?_
          rintro e w2 ⟨rfl, hb2⟩
          have Hb2 := Lib.hid (below_up Hb.out hb2 Hb.out.size)
          clear hb2
          go_wp2_with fail
          go_roundg (M.length - (j + 1))
          case measure => omega
          case rel => exact ⟨j + 1, rfl, by omega, by go_num, Lib.hid (by rw [Hat.out, hs, decide_eq_true Hlen.out]; rfl), Hb2⟩
      · have hS : mtB M = false := by unfold mtB; rw [Hno.out (by rw [decide_eq_false hlen]; rfl)]; simp
        obtain rfl : R = false := HR.out.trans hS
        have hd : ((r.length : Int) != (M.length : Int)) = true := by simp; omega
        go_wp2_with fail
        go_ret
        exact ⟨rfl, Hb.out⟩
    · obtain rfl : j = M.length := by omega
      have hall := Hall.out
      rw [List.take_length] at hall
      have hS : mtB M = decide (0 < M.length) := by unfold mtB; rw [hall, Bool.and_true]
      by_cases h0 : 0 < M.length
      · obtain rfl : R = true := HR.out.trans (hS.trans (decide_eq_true h0))
        go_wp2_with fail
        go_returns
        exact ⟨by simp <;> omega, Hb.out⟩
      · obtain rfl : R = false := HR.out.trans (hS.trans (decide_eq_false h0))
        go_wp2_with fail
        go_returns
        exact ⟨by simp <;> omega, Hb.out⟩
theorem eq_takeM {a b : List (List Dw)} {j : Nat} {x y : List Dw} (hx : a[j]? = some x) (hy : b[j]? = some y) (h : a.take j = b.take j) (hxy : x = y) : a.take (j + 1) = b.take (j + 1) := by
  rw [List.take_add_one, List.take_add_one, h, hx, hy, hxy]
end Go.Proofs.Ytlmiebeffdcfhaa
namespace Go.Proofs.Ytlmiebeffdcfhaa
open Go.RowKit
theorem col_step {M : List (List Dw)} {j k : Nat} {r : List Dw} {x : Dw} (hr : M[j]? = some r) (hx : r[k]? = some x) : flat ((col M k).take j) ++ fl x = flat ((col M k).take (j + 1)) := by
  have e : (col M k)[j]? = some x := by
    rw [col, List.getElem?_map, hr]
    simp [List.getD, hx]
  rw [List.take_add_one, e, flat_app]
  simp [flat]
attribute [local irreducible] World.cell?
theorem colsM_at {L : List (List Dw)} {j : Nat} (hj : j < L.length) : (colsM L).take (j + 1) = (colsM L).take j ++ [col L j] := by
  rw [List.take_add_one, colsM, List.getElem?_map, List.getElem?_range hj]
  rfl
end Go.Proofs.Ytlmiebeffdcfhaa
namespace Go.Proofs.Ytlmiebeffdcfhaa
open Go.RowKit
theorem idM_yes {n : Int} (h : 1 ≤ n ∧ n ≤ 4) : idM n = (List.range (2 ^ n.toNat)).map fun (i : Nat) => basisL n (i : Int) := if_pos h
theorem idM_no {n : Int} (h : ¬ (1 ≤ n ∧ n ≤ 4)) : idM n = [] := if_neg h
theorem idM_len {n : Int} (h : 1 ≤ n ∧ n ≤ 4) : (idM n).length = 2 ^ n.toNat := by rw [idM_yes h, List.length_map, List.length_range]
theorem idM_step {n : Int} (h : 1 ≤ n ∧ n ≤ 4) {j : Nat} (hj : j < 2 ^ n.toNat) : (idM n).take (j + 1) = (idM n).take j ++ [basisL n (j : Int)] := by
  rw [List.take_add_one, idM_yes h, List.getElem?_map, List.getElem?_range hj]
  rfl
attribute [local irreducible] World.cell?
set_option maxRecDepth 100000 in
set_option maxHeartbeats 1600000 in
theorem sident1 (w : World) :
    Calls Try.prog 37 #[.int .i64 1] w fun e w' => ∃ u, e = .returned u ∧ DSM w' w.heap.size w'.heap.size u (idM 1) ∧ Below w.heap.size w w' := by
  obtain ⟨i0, hi, hz0, hz1, hz2⟩ := info_parts infoDs
  have H1 := Lib.hid (fun w => lin_any 1 1 4 true w (by decide))
  have Hb0 := Lib.hid (fun (j : Nat) w => sbasis 1 j w)
  go_enter Try.func37, Try.ntmps37
  go_wp2_with fail
  go_loopg [3, 4] 2 (fun n out i wr => ∃ (j : Nat) (vs : List Value), n = 2 - j ∧ j ≤ 2 ∧ i = .int .i64 j ∧ Hid (wr.ownsRow w.heap.size 62 1 out j vs) ∧ Hid (RwS wr w.heap.size wr.heap.size vs ((idM 1).take j)) ∧ Hid (Below w.heap.size w wr))
  case atStart => exact ⟨0, [], rfl, Nat.zero_le _, rfl, ownM_new rfl, RwS.nil, (Below.refl _ _).alloc (Nat.le_refl _) _⟩
  case round =>
    obtain ⟨j, vs, rfl, hj, rfl, Hown, Hrows, Hb⟩ := hrel
    by_cases hlt : j < 2
    · have hs := Hb.out.size
      have hlt' : (j : Int) < 2 := by omega
      have Hstep := Lib.hid (idM_step (n := 1) (by decide) (j := j) hlt)
      go_wp2_with fail
      refine (H1.out _).mono ?_
      rintro e w1 ⟨rfl, rfl⟩
      go_wp2_with fail
      refine (Hb0.out j _).mono ?_
      rintro e w2 ⟨u, rfl, hd, hb2⟩
      have Hown2 := Lib.hid (row_below Hown.out hb2)
      have Hrows2 := Lib.hid (Hrows.out.snoc hd.upto hs hb2.size fun k _ _ hk => hb2.block k hk)
      have Hb2 := Lib.hid (Hb.out.trans (hb2.mono hs))
      have hs2 := Hb2.out.size
      obtain ⟨p, pc, rfl, -, -⟩ := hd
      clear hb2 Hown Hrows Hb
      generalize basisL 1 (j : Int) = r at *
      go_wp2_with (first
        | (at_builtin; refine wpList_append_own _ rfl _ _ 39 rfl w.heap.size 62 i0 (.slice none 0 0) 1 24 Try.underlying39 hi hz0 hz1 hz2 rfl (by decide) _ _ _ rfl (Hown2.out.alloc _) ⟨w2.heap.size, 0, none⟩ 1 1 [.slice p r.length pc] rfl rfl (slice_new _ _ _) (by intro u hu; simp at hu; subst hu; rfl) ?d3 ?d4 ?d5 ?_))
      case d3 => unfold maxLen; omega
      case d4 => omega
      case d5 => first | omega | (simp; omega)
      intro v' w4 hown' hgrow _
      have HB4 := Lib.hid ((Hb2.out.alloc hs2 (.cells #[.slice p r.length pc] 62)).grown hgrow (by simp; omega) (fun q hq => by have := Hown2.out.lt q hq; omega))
      have Hrows4 := Lib.hid (((Hrows2.out.block fun k _ _ hk => Below.heap_alloc _ _ _ hk).grown (Hown2.out.alloc _) hgrow).upto)
      have Hown4 := Lib.hid hown'
      clear hown' hgrow
      rw [← Hstep.out] at Hrows4
      go_wp2_with fail
      go_roundg (2 - (j + 1))
      case measure => omega
      case rel => exact ⟨j + 1, _, rfl, by omega, by go_num, Hown4.out, Hrows4, HB4⟩
    · obtain rfl : j = 2 := by omega
      have hrows := Hrows.out
      rw [List.take_of_length_le (by rw [idM_len (by decide)]; decide)] at hrows
      have Hd := Lib.hid (DSM.of_own (M := idM 1) (by rw [idM_len (by decide)]; exact Hown.out) hrows (Nat.le_refl _))
      clear hrows
      go_wp2_with fail
      refine (H1.out _).mono ?_
      rintro e w1 ⟨rfl, rfl⟩
      go_wp2_with fail
      go_ret
      exact ⟨_, rfl, Hd.out, Hb.out⟩
set_option maxRecDepth 100000 in
set_option maxHeartbeats 1600000 in
theorem sident2 (w : World) :
    Calls Try.prog 37 #[.int .i64 2] w fun e w' => ∃ u, e = .returned u ∧ DSM w' w.heap.size w'.heap.size u (idM 2) ∧ Below w.heap.size w w' := by
  obtain ⟨i0, hi, hz0, hz1, hz2⟩ := info_parts infoDs
  have H1 := Lib.hid (fun w => lin_any 2 1 4 true w (by decide))
  have Hb0 := Lib.hid (fun (j : Nat) w => sbasis 2 j w)
  go_enter Try.func37, Try.ntmps37
  go_wp2_with fail
  go_loopg [3, 4] 4 (fun n out i wr => ∃ (j : Nat) (vs : List Value), n = 4 - j ∧ j ≤ 4 ∧ i = .int .i64 j ∧ Hid (wr.ownsRow w.heap.size 62 1 out j vs) ∧ Hid (RwS wr w.heap.size wr.heap.size vs ((idM 2).take j)) ∧ Hid (Below w.heap.size w wr))
  case atStart => exact ⟨0, [], rfl, Nat.zero_le _, rfl, ownM_new rfl, RwS.nil, (Below.refl _ _).alloc (Nat.le_refl _) _⟩
  case round =>
    obtain ⟨j, vs, rfl, hj, rfl, Hown, Hrows, Hb⟩ := hrel
    by_cases hlt : j < 4
    · have hs := Hb.out.size
      have hlt' : (j : Int) < 4 := by omega
      have Hstep := Lib.hid (idM_step (n := 2) (by decide) (j := j) hlt)
      go_wp2_with fail
      refine (H1.out _).mono ?_
      rintro e w1 ⟨rfl, rfl⟩
      go_wp2_with fail
      refine (Hb0.out j _).mono ?_
      rintro e w2 ⟨u, rfl, hd, hb2⟩
      have Hown2 := Lib.hid (row_below Hown.out hb2)
      have Hrows2 := Lib.hid (Hrows.out.snoc hd.upto hs hb2.size fun k _ _ hk => hb2.block k hk)
      have Hb2 := Lib.hid (Hb.out.trans (hb2.mono hs))
      have hs2 := Hb2.out.size
      obtain ⟨p, pc, rfl, -, -⟩ := hd
      clear hb2 Hown Hrows Hb
      generalize basisL 2 (j : Int) = r at *
      go_wp2_with (first
        | (at_builtin; refine wpList_append_own _ rfl _ _ 39 rfl w.heap.size 62 i0 (.slice none 0 0) 1 24 Try.underlying39 hi hz0 hz1 hz2 rfl (by decide) _ _ _ rfl (Hown2.out.alloc _) ⟨w2.heap.size, 0, none⟩ 1 1 [.slice p r.length pc] rfl rfl (slice_new _ _ _) (by intro u hu; simp at hu; subst hu; rfl) ?d3 ?d4 ?d5 ?_))
      case d3 => unfold maxLen; omega
      case d4 => omega
      case d5 => first | omega | (simp; omega)
      intro v' w4 hown' hgrow _
      have HB4 := Lib.hid ((Hb2.out.alloc hs2 (.cells #[.slice p r.length pc] 62)).grown hgrow (by simp; omega) (fun q hq => by have := Hown2.out.lt q hq; omega))
      have Hrows4 := Lib.hid (((Hrows2.out.block fun k _ _ hk => Below.heap_alloc _ _ _ hk).grown (Hown2.out.alloc _) hgrow).upto)
      have Hown4 := Lib.hid hown'
      clear hown' hgrow
      rw [← Hstep.out] at Hrows4
      go_wp2_with fail
      go_roundg (4 - (j + 1))
      case measure => omega
      case rel => exact ⟨j + 1, _, rfl, by omega, by go_num, Hown4.out, Hrows4, HB4⟩
    · obtain rfl : j = 4 := by omega
      have hrows := Hrows.out
      rw [List.take_of_length_le (by rw [idM_len (by decide)]; decide)] at hrows
      have Hd := Lib.hid (DSM.of_own (M := idM 2) (by rw [idM_len (by decide)]; exact Hown.out) hrows (Nat.le_refl _))
      clear hrows
      go_wp2_with fail
      refine (H1.out _).mono ?_
      rintro e w1 ⟨rfl, rfl⟩
      go_wp2_with fail
      go_ret
      exact ⟨_, rfl, Hd.out, Hb.out⟩
set_option maxRecDepth 100000 in
set_option maxHeartbeats 1600000 in
theorem sident3 (w : World) :
    Calls Try.prog 37 #[.int .i64 3] w fun e w' => ∃ u, e = .returned u ∧ DSM w' w.heap.size w'.heap.size u (idM 3) ∧ Below w.heap.size w w' := by
  obtain ⟨i0, hi, hz0, hz1, hz2⟩ := info_parts infoDs
  have H1 := Lib.hid (fun w => lin_any 3 1 4 true w (by decide))
  have Hb0 := Lib.hid (fun (j : Nat) w => sbasis 3 j w)
  go_enter Try.func37, Try.ntmps37
  go_wp2_with fail
  go_loopg [3, 4] 8 (fun n out i wr => ∃ (j : Nat) (vs : List Value), n = 8 - j ∧ j ≤ 8 ∧ i = .int .i64 j ∧ Hid (wr.ownsRow w.heap.size 62 1 out j vs) ∧ Hid (RwS wr w.heap.size wr.heap.size vs ((idM 3).take j)) ∧ Hid (Below w.heap.size w wr))
  case atStart => exact ⟨0, [], rfl, Nat.zero_le _, rfl, ownM_new rfl, RwS.nil, (Below.refl _ _).alloc (Nat.le_refl _) _⟩
  case round =>
    obtain ⟨j, vs, rfl, hj, rfl, Hown, Hrows, Hb⟩ := hrel
    by_cases hlt : j < 8
    · have hs := Hb.out.size
      have hlt' : (j : Int) < 8 := by omega
      have Hstep := Lib.hid (idM_step (n := 3) (by decide) (j := j) hlt)
      go_wp2_with fail
      refine (H1.out _).mono ?_
      rintro e w1 ⟨rfl, rfl⟩
      go_wp2_with fail
      refine (Hb0.out j _).mono ?_
      rintro e w2 ⟨u, rfl, hd, hb2⟩
      have Hown2 := Lib.hid (row_below Hown.out hb2)
      have Hrows2 := Lib.hid (Hrows.out.snoc hd.upto hs hb2.size fun k _ _ hk => hb2.block k hk)
      have Hb2 := Lib.hid (Hb.out.trans (hb2.mono hs))
      have hs2 := Hb2.out.size
      obtain ⟨p, pc, rfl, -, -⟩ := hd
      clear hb2 Hown Hrows Hb
      generalize basisL 3 (j : Int) = r at *
      go_wp2_with (first
        | (at_builtin; refine wpList_append_own _ rfl _ _ 39 rfl w.heap.size 62 i0 (.slice none 0 0) 1 24 Try.underlying39 hi hz0 hz1 hz2 rfl (by decide) _ _ _ rfl (Hown2.out.alloc _) ⟨w2.heap.size, 0, none⟩ 1 1 [.slice p r.length pc] rfl rfl (slice_new _ _ _) (by intro u hu; simp at hu; subst hu; rfl) ?d3 ?d4 ?d5 ?_))
      case d3 => unfold maxLen; omega
      case d4 => omega
      case d5 => first | omega | (simp; omega)
      intro v' w4 hown' hgrow _
      have HB4 := Lib.hid ((Hb2.out.alloc hs2 (.cells #[.slice p r.length pc] 62)).grown hgrow (by simp; omega) (fun q hq => by have := Hown2.out.lt q hq; omega))
      have Hrows4 := Lib.hid (((Hrows2.out.block fun k _ _ hk => Below.heap_alloc _ _ _ hk).grown (Hown2.out.alloc _) hgrow).upto)
      have Hown4 := Lib.hid hown'
      clear hown' hgrow
      rw [← Hstep.out] at Hrows4
      go_wp2_with fail
      go_roundg (8 - (j + 1))
      case measure => omega
      case rel => exact ⟨j + 1, _, rfl, by omega, by go_num, Hown4.out, Hrows4, HB4⟩
    · obtain rfl : j = 8 := by omega
      have hrows := Hrows.out
      rw [List.take_of_length_le (by rw [idM_len (by decide)]; decide)] at hrows
      have Hd := Lib.hid (DSM.of_own (M := idM 3) (by rw [idM_len (by decide)]; exact Hown.out) hrows (Nat.le_refl _))
      clear hrows
      go_wp2_with fail
      refine (H1.out _).mono ?_
      rintro e w1 ⟨rfl, rfl⟩
      go_wp2_with fail
      go_ret
      exact ⟨_, rfl, Hd.out, Hb.out⟩
set_option maxRecDepth 100000 in
set_option maxHeartbeats 1600000 in
theorem sident4 (w : World) :
    Calls Try.prog 37 #[.int .i64 4] w fun e w' => ∃ u, e = .returned u ∧ DSM w' w.heap.size w'.heap.size u (idM 4) ∧ Below w.heap.size w w' := by
  obtain ⟨i0, hi, hz0, hz1, hz2⟩ := info_parts infoDs
  have H1 := Lib.hid (fun w => lin_any 4 1 4 true w (by decide))
  have Hb0 := Lib.hid (fun (j : Nat) w => sbasis 4 j w)
  go_enter Try.func37, Try.ntmps37
  go_wp2_with fail
  go_loopg [3, 4] 16 (fun n out i wr => ∃ (j : Nat) (vs : List Value), n = 16 - j ∧ j ≤ 16 ∧ i = .int .i64 j ∧ Hid (wr.ownsRow w.heap.size 62 1 out j vs) ∧ Hid (RwS wr w.heap.size wr.heap.size vs ((idM 4).take j)) ∧ Hid (Below w.heap.size w wr))
  case atStart => exact ⟨0, [], rfl, Nat.zero_le _, rfl, ownM_new rfl, RwS.nil, (Below.refl _ _).alloc (Nat.le_refl _) _⟩
  case round =>
    obtain ⟨j, vs, rfl, hj, rfl, Hown, Hrows, Hb⟩ := hrel
    by_cases hlt : j < 16
    · have hs := Hb.out.size
      have hlt' : (j : Int) < 16 := by omega
      have Hstep := Lib.hid (idM_step (n := 4) (by decide) (j := j) hlt)
      go_wp2_with fail
      refine (H1.out _).mono ?_
      rintro e w1 ⟨rfl, rfl⟩
      go_wp2_with fail
      refine (Hb0.out j _).mono ?_
      rintro e w2 ⟨u, rfl, hd, hb2⟩
      have Hown2 := Lib.hid (row_below Hown.out hb2)
      have Hrows2 := Lib.hid (Hrows.out.snoc hd.upto hs hb2.size fun k _ _ hk => hb2.block k hk)
      have Hb2 := Lib.hid (Hb.out.trans (hb2.mono hs))
      have hs2 := Hb2.out.size
      obtain ⟨p, pc, rfl, -, -⟩ := hd
      clear hb2 Hown Hrows Hb
      generalize basisL 4 (j : Int) = r at *
      go_wp2_with (first
        | (at_builtin; refine wpList_append_own _ rfl _ _ 39 rfl w.heap.size 62 i0 (.slice none 0 0) 1 24 Try.underlying39 hi hz0 hz1 hz2 rfl (by decide) _ _ _ rfl (Hown2.out.alloc _) ⟨w2.heap.size, 0, none⟩ 1 1 [.slice p r.length pc] rfl rfl (slice_new _ _ _) (by intro u hu; simp at hu; subst hu; rfl) ?d3 ?d4 ?d5 ?_))
      case d3 => unfold maxLen; omega
      case d4 => omega
      case d5 => first | omega | (simp; omega)
      intro v' w4 hown' hgrow _
      have HB4 := Lib.hid ((Hb2.out.alloc hs2 (.cells #[.slice p r.length pc] 62)).grown hgrow (by simp; omega) (fun q hq => by have := Hown2.out.lt q hq; omega))
      have Hrows4 := Lib.hid (((Hrows2.out.block fun k _ _ hk => Below.heap_alloc _ _ _ hk).grown (Hown2.out.alloc _) hgrow).upto)
      have Hown4 := Lib.hid hown'
      clear hown' hgrow
      rw [← Hstep.out] at Hrows4
      go_wp2_with fail
      go_roundg (16 - (j + 1))
      case measure => omega
      case rel => exact ⟨j + 1, _, rfl, by omega, by go_num, Hown4.out, Hrows4, HB4⟩
    · obtain rfl : j = 16 := by omega
      have hrows := Hrows.out
      rw [List.take_of_length_le (by rw [idM_len (by decide)]; decide)] at hrows
      have Hd := Lib.hid (DSM.of_own (M := idM 4) (by rw [idM_len (by decide)]; exact Hown.out) hrows (Nat.le_refl _))
      clear hrows
      go_wp2_with fail
      refine (H1.out _).mono ?_
      rintro e w1 ⟨rfl, rfl⟩
      go_wp2_with fail
      go_ret
      exact ⟨_, rfl, Hd.out, Hb.out⟩
set_option maxRecDepth 100000 in
set_option maxHeartbeats 1600000 in
theorem sident_no (n : Int) (w : World) (h : ¬ (1 ≤ n ∧ n ≤ 4)) :
    Calls Try.prog 37 #[.int .i64 n] w fun e w' => ∃ u, e = .returned u ∧ DSM w' w.heap.size w'.heap.size u (idM n) ∧ Below w.heap.size w w' := by
  have H1 := Lib.hid (fun w => lin_any n 1 4 false w (by simp; omega))
  rw [idM_no h]
  go_enter Try.func37, Try.ntmps37
  go_wp2_with fail
  go_loopg [3, 4] 0 (fun n out i wr => n = 0 ∧ i = .int .i64 0 ∧ out = .slice (some ⟨w.heap.size, 0, none⟩) 0 0 ∧ Hid (Below w.heap.size w wr))
  case atStart => exact ⟨rfl, rfl, rfl, (Below.refl _ _).alloc (Nat.le_refl _) _⟩
  case round =>
    obtain ⟨rfl, rfl, rfl, Hb⟩ := hrel
    go_wp2_with fail
    refine (H1.out _).mono ?_
    rintro e w1 ⟨rfl, rfl⟩
    go_wp2_with fail
    go_ret
    exact ⟨_, rfl, DSM.nil, Hb.out⟩
theorem sident (n : Int) (w : World) :
    Calls Try.prog 37 #[.int .i64 n] w fun e w' => ∃ u, e = .returned u ∧ DSM w' w.heap.size w'.heap.size u (idM n) ∧ Below w.heap.size w w' := by
  by_cases h : 1 ≤ n ∧ n ≤ 4
  · rcases (show n = 1 ∨ n = 2 ∨ n = 3 ∨ n = 4 by omega) with rfl | rfl | rfl | rfl
    · exact sident1 w
    · exact sident2 w
    · exact sident3 w
    · exact sident4 w
  · exact sident_no n w h
end Go.Proofs.Ytlmiebeffdcfhaa
