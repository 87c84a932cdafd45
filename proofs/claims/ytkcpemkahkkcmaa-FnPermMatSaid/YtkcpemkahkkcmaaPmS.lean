/- The model's functions of the eighth chapter. -/
import Derived.Test.YtkcpemkahkkcmaaBaseB11
import Derived.Test.YtkcpemkahkkcmaaBaseB20
import Derived.Test.YtkcpemkahkkcmaaGtB
import Derived.Test.YtkcpemkahkkcmaaBaseB10
namespace Go.Proofs.Ytkcpemkahkkcmaa
open Go.RowKit
theorem permB_no {p : List Int} {j : Nat} (hj : j < p.length) (h : plB p j = false) : permB p = false := by
  cases hp : permB p with
  | false => rfl
  | true => rw [(permB_iff.1 hp).1 j hj] at h; cases h
theorem permB_len {p : List Int} (h : ∀ i, i < p.length → plB p i = true) : permB p = decide (1 ≤ (p.length : Int) ∧ (p.length : Int) ≤ 4) := by
  rw [Bool.eq_iff_iff, permB_iff, decide_eq_true_eq]
  exact ⟨fun k => by omega, fun k => ⟨h, by omega, by omega⟩⟩
/-- The elements are machine integers. -/
def Ei (l : List Int) : Prop := ∀ x ∈ l, -9223372036854775808 ≤ x ∧ x ≤ 9223372036854775807
attribute [local irreducible] World.cell?
set_option maxRecDepth 100000 in
set_option maxHeartbeats 3200000 in
theorem sisP (B : Nat) (v : Value) (p : List Int) (w : World) (hv : intE.Sl w B v p) (he : Ei p) (hm : p.length ≤ 1048576) :
    Calls Try.prog 36 #[v] w fun e w' => e = .returned (.bool (permB p)) ∧ Below w.heap.size w w' := by
  obtain ⟨a, cap, rfl, hcap, hr⟩ := hv
  have Hr := Lib.hid hr
  obtain ⟨T, hT⟩ : ∃ T, T = permB p := ⟨_, rfl⟩
  rw [← hT]
  have HT := Lib.hid hT
  have He := Lib.hid he
  clear hr hT he
  go_enter Try.func36, Try.ntmps36
  go_wp2_with fail
  go_loopg [3] p.length (fun n i wr => ∃ j : Nat, n = p.length - j ∧ j ≤ p.length ∧ i = .int .i64 j ∧ Hid (∀ k, k < j → plB p k = true) ∧ Hid (Below w.heap.size w wr))
  case atStart => exact ⟨0, rfl, Nat.zero_le _, rfl, Lib.hid (fun k hk => absurd hk (Nat.not_lt_zero _)), Below.refl _ _⟩
  case round =>
    obtain ⟨j, rfl, hj, rfl, Hall, Hb⟩ := hrel
    by_cases hlt : j < p.length
    · obtain ⟨g, rfl, _, hrow0⟩ := Hr.out (by omega)
      have hrow := hrow0.below Hb.out hrow0.lt
      obtain ⟨x, hx⟩ : ∃ x, p[j]? = some x := ⟨p[j], List.getElem?_eq_getElem hlt⟩
      have c0 := IRow.cell hrow hx
      have hgl := hrow.lt
      have hgd : p.getD j 0 = x := by rw [List.getD_eq_getElem?_getD, hx]; rfl
      have hPl : plB p j = (decide (0 ≤ x ∧ x ≤ (p.length : Int) - 1) && !decide (x ∈ p.take j)) := by unfold plB; rw [hgd]
      have Hs := Lib.hid (fun q => shas g (.slice (some ⟨g, 0, none⟩) (p.take j).length cap) (p.take j) x (wr.drewN q) (Enc.Sl.mk rfl (by rw [List.length_take]; omega) (Nat.le_refl _) ((hrow.take j).block rfl)) (by rw [List.length_take]; omega))
      rw [List.length_take, Nat.min_eq_left (show j ≤ p.length by omega)] at Hs
      have Hno := Lib.hid (fun h => permB_no hlt h)
      have Hyes := Lib.hid (fun (h : plB p j = true) k (hk : k < j + 1) => show plB p k = true by
        rcases Nat.lt_succ_iff_lt_or_eq.1 hk with h' | rfl
        · exact Hall.out k h'
        · exact h)
      clear hx hgd hrow hrow0
      by_cases hin : 0 ≤ x ∧ x ≤ (p.length : Int) - 1
      · have Hl := Lib.hid (fun W => lin_q x 0 ((p.length : Int) - 1) true W (decide_eq_true hin))
        rw [decide_eq_true hin, Bool.true_and] at hPl
        clear hin
        by_cases hmem : x ∈ p.take j
        · rw [decide_eq_true hmem] at hPl Hs
          have Hpl := Lib.hid (show plB p j = false from hPl)
          clear hPl hmem
          go_upto_region 4 with fail
          go_quiet (first | (go_at_call 73; exact Calls.quiet_of_same (Hl.out _)) | (go_at_call 88; exact Calls.quiet_of_same (Hs.out _)))
          obtain rfl : T = false := HT.out.trans (Hno.out Hpl.out)
          go_wp2_with fail
          go_ret
          exact ⟨rfl, below_dn Hb.out _⟩
        · rw [decide_eq_false hmem] at hPl Hs
          have Hpl := Lib.hid (show plB p j = true from hPl)
          clear hPl hmem
          go_upto_region 4 with fail
          go_quiet (first | (go_at_call 73; exact Calls.quiet_of_same (Hl.out _)) | (go_at_call 88; exact Calls.quiet_of_same (Hs.out _)))
          go_wp2_with fail
          go_roundg (p.length - (j + 1))
          case measure => omega
          case rel => exact ⟨j + 1, rfl, by omega, by go_num, Lib.hid (Hyes.out Hpl.out), Lib.hid (below_dn Hb.out _)⟩
      · have Hl := Lib.hid (fun W => lin_q x 0 ((p.length : Int) - 1) false W (decide_eq_false hin))
        rw [decide_eq_false hin, Bool.false_and] at hPl
        have Hpl := Lib.hid hPl
        clear hPl hin
        go_upto_region 4 with fail
        go_quiet (first | (go_at_call 73; exact Calls.quiet_of_same (Hl.out _)) | (go_at_call 88; exact Calls.quiet_of_same (Hs.out _)))
        obtain rfl : T = false := HT.out.trans (Hno.out Hpl.out)
        go_wp2_with fail
        go_ret
        exact ⟨rfl, below_dn Hb.out _⟩
    · obtain rfl : j = p.length := by omega
      have H1 := Lib.hid (fun w => lin_any (p.length : Int) 1 4 T w (by rw [HT.out]; exact (permB_len Hall.out).symm))
      go_wp2_with fail
      refine (H1.out _).mono ?_
      rintro e w2 ⟨rfl, rfl⟩
      go_wp2_with fail
      go_ret
      exact ⟨rfl, Hb.out⟩
theorem cmp_step {p q : List Int} {j : Nat} {x : Int} (hx : p[j]? = some x) : intE.flat ((p.map (atI q)).take j) ++ [.int .i64 (atI q x)] = intE.flat ((p.map (atI q)).take (j + 1)) := by
  rw [List.take_add_one, List.getElem?_map, hx, intE.flat_app]
  rfl
set_option maxRecDepth 100000 in
set_option maxHeartbeats 3200000 in
theorem scmpP (B C : Nat) (v u : Value) (p q : List Int) (w : World) (hv : intE.Sl w B v p) (hu : intE.Sl w C u q) (hep : Ei p) (heq : Ei q) (hm : p.length ≤ 1048576) (hm' : q.length ≤ 1048576) :
    Calls Try.prog 30 #[v, u] w fun e w' => ∃ r, e = .returned r ∧ intE.Sl w' w.heap.size r (cmpP p q) ∧ Below w.heap.size w w' := by
  obtain ⟨i0, hi, hz0, hz1, hz2⟩ := info_parts infoInt
  have Hb0 := Lib.hid (show Below w.heap.size w (w.alloc (.cells #[] 3)) by go_grown)
  have Hv := Lib.hid (hv.below Hb0.out)
  have Hu := Lib.hid (hu.below Hb0.out)
  have H1 := Lib.hid (fun W (h : intE.Sl W B v p) => sisP B v p W h hep hm)
  have H2 := Lib.hid (fun W (h : intE.Sl W C u q) => sisP C u q W h heq hm')
  have hc : cmpP p q = if permB p && permB q && decide (p.length = q.length) then p.map (atI q) else [] := rfl
  cases hP : permB p with
  | false =>
    rw [hP] at H1 hc
    rw [show cmpP p q = [] from hc]
    clear hc hep heq
    obtain ⟨a, cap, rfl, hcap, -⟩ := hv
    obtain ⟨a', cap', rfl, hcap', -⟩ := hu
    go_enter Try.func30, Try.ntmps30
    go_wp2_with fail
    refine (H1.out _ Hv.out).mono ?_
    rintro e w1 ⟨rfl, hb1⟩
    have Hu1 := Lib.hid (Hu.out.below hb1)
    have Hb1 := Lib.hid (below_nx Hb0.out hb1)
    have Ho1 := Lib.hid (row_below (Enc.own_nil (E := intE) (w := w) rfl) hb1)
    clear hb1
    go_wp2_with fail
    go_ret
    exact ⟨_, rfl, Enc.Sl.nil, Hb1.out⟩
  | true =>
    cases hQ : permB q with
    | false =>
      rw [hP] at H1 hc
      rw [hQ] at H2 hc
      rw [show cmpP p q = [] from hc]
      clear hc hep heq
      obtain ⟨a, cap, rfl, hcap, -⟩ := hv
      obtain ⟨a', cap', rfl, hcap', -⟩ := hu
      go_enter Try.func30, Try.ntmps30
      go_wp2_with fail
      refine (H1.out _ Hv.out).mono ?_
      rintro e w1 ⟨rfl, hb1⟩
      have Hu1 := Lib.hid (Hu.out.below hb1)
      have Hb1 := Lib.hid (below_nx Hb0.out hb1)
      have Ho1 := Lib.hid (row_below (Enc.own_nil (E := intE) (w := w) rfl) hb1)
      clear hb1
      go_wp2_with fail
      refine (H2.out _ Hu1.out).mono ?_
      rintro e w2 ⟨rfl, hb2⟩
      have Hb2 := Lib.hid (below_nx Hb1.out hb2)
      have Ho2 := Lib.hid (row_below Ho1.out hb2)
      clear hb2
      go_wp2_with fail
      go_ret
      exact ⟨_, rfl, Enc.Sl.nil, Hb2.out⟩
    | true =>
      rw [hP] at H1 hc
      rw [hQ] at H2 hc
      by_cases hl : p.length = q.length
      · rw [decide_eq_true hl] at hc
        have Hp := Lib.hid (fun (j : Nat) (x : Int) (h : p[j]? = some x) => permB_at hP h)
        have Hc := Lib.hid (show cmpP p q = p.map (atI q) from hc)
        have hcl : (cmpP p q).length = p.length := by rw [Hc.out, List.length_map]
        have h4 := (permB_iff.1 hP).2.2
        clear hc hep heq hm hm'
        obtain ⟨a, cap, rfl, hcap, hr⟩ := hv
        obtain ⟨a', cap', rfl, hcap', hr'⟩ := hu
        rw [← hl] at Hu H2 hcap' hr' ⊢
        have Hl := Lib.hid hl
        have Hr := Lib.hid hr
        have Hr' := Lib.hid hr'
        clear hl hr hr'
        have hd2 : ((p.length : Int) != p.length) = false := by simp
        go_enter Try.func30, Try.ntmps30
        go_wp2_with fail
        refine (H1.out _ Hv.out).mono ?_
        rintro e w1 ⟨rfl, hb1⟩
        have Hu1 := Lib.hid (Hu.out.below hb1)
        have Hb1 := Lib.hid (below_nx Hb0.out hb1)
        have Ho1 := Lib.hid (row_below (Enc.own_nil (E := intE) (w := w) rfl) hb1)
        clear hb1
        go_wp2_with fail
        refine (H2.out _ Hu1.out).mono ?_
        rintro e w2 ⟨rfl, hb2⟩
        have Hb2 := Lib.hid (below_nx Hb1.out hb2)
        have Ho2 := Lib.hid (row_below Ho1.out hb2)
        clear hb2
        go_wp2_with fail
        go_loopg [5, 6] p.length (fun n out i wr => ∃ j : Nat, n = p.length - j ∧ j ≤ p.length ∧ i = .int .i64 j ∧ Hid (wr.ownsRow w.heap.size 3 1 out j (intE.flat ((p.map (atI q)).take j))) ∧ Hid (Below w.heap.size w wr))
        case atStart => exact ⟨0, rfl, Nat.zero_le _, rfl, Ho2, Hb2⟩
        case round =>
          obtain ⟨j, rfl, hj, rfl, Hown, Hb⟩ := hrel
          have hs := Hb.out.size
          by_cases hlt : j < p.length
          · obtain ⟨g, rfl, _, hrow⟩ := Hr.out (by omega)
            obtain ⟨g', rfl, _, hrow'⟩ := Hr'.out (by omega)
            obtain ⟨x, hx⟩ : ∃ x, p[j]? = some x := ⟨p[j], List.getElem?_eq_getElem hlt⟩
            obtain ⟨x0, x1⟩ := Hp.out j x hx
            obtain ⟨k, rfl⟩ : ∃ k : Nat, x = k := ⟨x.toNat, by omega⟩
            have hk : k < p.length := by omega
            obtain ⟨y, hy⟩ : ∃ y, q[k]? = some y := ⟨q[k]'(by have := Hl.out; omega), List.getElem?_eq_getElem _⟩
            have r1 := hrow.below Hb.out hrow.lt
            have r2 := hrow'.below Hb.out hrow'.lt
            have c0 := IRow.cell r1 hx
            have c1 := IRow.cell r2 hy
            have hgl := r1.lt
            have hgl' := r2.lt
            have hgd : atI q (k : Int) = y := by rw [atI, Int.toNat_natCast, List.getD_eq_getElem?_getD, hy]; rfl
            have Hstep := Lib.hid (cmp_step (q := q) hx)
            rw [hgd] at Hstep
            have Hnew := Lib.hid (Enc.new_row (E := intE) wr y #[.int .i64 y] rfl)
            clear hx hy hgd r1 r2 hrow hrow'
            go_wp2_with (first
              | (at_builtin; refine wpList_append_own _ rfl _ _ 39 rfl w.heap.size 3 i0 (.int .i64 0) 1 8 Try.underlying39 hi hz0 hz1 hz2 rfl (by decide) _ _ _ rfl (Hown.out.alloc _) ⟨wr.heap.size, 0, none⟩ 1 1 [.int .i64 y] rfl rfl Hnew.out (one_int _) ?d3 ?d4 ?d5 ?_))
            case d3 => unfold maxLen; omega
            case d4 => omega
            case d5 => first | omega | (simp; omega)
            intro v' w4 hown' hgrow _
            have HB4 := Lib.hid ((Hb.out.alloc hs (.cells #[.int .i64 y] 3)).grown hgrow (by simp; omega) (fun q hq => by have := Hown.out.lt q hq; omega))
            rw [Hstep.out] at hown'
            have Hown4 := Lib.hid hown'
            clear hown' hgrow
            go_wp2_with fail
            go_roundg (p.length - (j + 1))
            case measure => omega
            case rel => exact ⟨j + 1, rfl, by omega, by go_num, Hown4, HB4⟩
          · obtain rfl : j = p.length := by omega
            have hown := Hown.out
            rw [List.take_of_length_le (by rw [List.length_map]; exact Nat.le_refl _), ← Hc.out, ← hcl] at hown
            have Hout := Lib.hid (Enc.Sl.of_own (E := intE) (l := cmpP p q) hown)
            clear hown
            go_wp2_with fail
            go_ret
            exact ⟨_, rfl, Hout.out, Hb.out⟩
      · rw [decide_eq_false hl] at hc
        rw [show cmpP p q = [] from hc]
        clear hc hep heq
        obtain ⟨a, cap, rfl, hcap, -⟩ := hv
        obtain ⟨a', cap', rfl, hcap', -⟩ := hu
        have hd2 : ((p.length : Int) != q.length) = true := by simp; omega
        clear hl
        go_enter Try.func30, Try.ntmps30
        go_wp2_with fail
        refine (H1.out _ Hv.out).mono ?_
        rintro e w1 ⟨rfl, hb1⟩
        have Hu1 := Lib.hid (Hu.out.below hb1)
        have Hb1 := Lib.hid (below_nx Hb0.out hb1)
        have Ho1 := Lib.hid (row_below (Enc.own_nil (E := intE) (w := w) rfl) hb1)
        clear hb1
        go_wp2_with fail
        refine (H2.out _ Hu1.out).mono ?_
        rintro e w2 ⟨rfl, hb2⟩
        have Hb2 := Lib.hid (below_nx Hb1.out hb2)
        have Ho2 := Lib.hid (row_below Ho1.out hb2)
        clear hb2
        go_wp2_with fail
        go_ret
        exact ⟨_, rfl, Enc.Sl.nil, Hb2.out⟩
theorem inv_len0 {p : List Int} (h : permB p = true) : invP p = invS p p.length := if_pos h
end Go.Proofs.Ytkcpemkahkkcmaa
