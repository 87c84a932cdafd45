/- The program's ComposePermutations and InversePermutation. -/
import Derived.Test.YtfmgjhaofbdlpaaPmKa
namespace Go.Proofs.Ytfmgjhaofbdlpaa
open Go.RowKit
attribute [local irreducible] World.cell?
set_option maxRecDepth 100000 in
set_option maxHeartbeats 3200000 in
theorem icmpP (B C : Nat) (v u : Value) (p q : List Int) (w : World) (hv : intE.Sl w B v p) (hu : intE.Sl w C u q) (hep : Ei p) (heq : Ei q) (hm : p.length ≤ 1048576) (hm' : q.length ≤ 1048576) :
    Calls Try.prog 14 #[v, u] w fun e w' => ∃ r, e = .returned r ∧ intE.Sl w' w.heap.size r (cmpP p q) ∧ Below w.heap.size w w' := by
  obtain ⟨i0, hi, hz0, hz1, hz2⟩ := info_parts infoInt
  have Hv := Lib.hid hv
  have Hu := Lib.hid hu
  have H1 := Lib.hid (fun W (h : intE.Sl W B v p) => iisP B v p W h hep hm)
  have H2 := Lib.hid (fun W (h : intE.Sl W C u q) => iisP C u q W h heq hm')
  have hc : cmpP p q = if permB p && permB q && decide (p.length = q.length) then p.map (atI q) else [] := rfl
  by_cases hl : p.length = q.length
  · rw [decide_eq_true hl] at hc
    cases hP : permB p with
    | false =>
      rw [hP] at H1 hc
      rw [show cmpP p q = [] from hc]
      clear hc hep heq hP
      obtain ⟨a, cap, rfl, hcap, -⟩ := hv
      obtain ⟨a', cap', rfl, hcap', -⟩ := hu
      rw [← hl] at hcap' ⊢
      clear Hu H2 hl
      have hd2 : ((p.length : Int) != p.length) = false := by simp
      go_enter Try.func14, Try.ntmps14
      go_wp2_with fail
      refine (H1.out _ Hv.out).mono ?_
      rintro e w1 ⟨rfl, hb1⟩
      have Hb1 := Lib.hid hb1
      clear hb1
      go_wp2_with fail
      go_ret
      exact ⟨_, rfl, Enc.Sl.nil, Hb1.out⟩
    | true =>
      cases hQ : permB q with
      | false =>
        rw [hP] at H1 hc
        rw [hQ] at H2 hc
        rw [show cmpP p q = [] from hc]
        clear hc hep heq hP hQ
        obtain ⟨a, cap, rfl, hcap, -⟩ := hv
        obtain ⟨a', cap', rfl, hcap', -⟩ := hu
        rw [← hl] at hcap' Hu H2 ⊢
        clear hl
        have hd2 : ((p.length : Int) != p.length) = false := by simp
        go_enter Try.func14, Try.ntmps14
        go_wp2_with fail
        refine (H1.out _ Hv.out).mono ?_
        rintro e w1 ⟨rfl, hb1⟩
        have Hu1 := Lib.hid (Hu.out.below hb1)
        have Hb1 := Lib.hid hb1
        clear hb1
        go_wp2_with fail
        refine (H2.out _ Hu1.out).mono ?_
        rintro e w2 ⟨rfl, hb2⟩
        have Hb2 := Lib.hid (below_nx Hb1.out hb2)
        clear hb2
        go_wp2_with fail
        go_ret
        exact ⟨_, rfl, Enc.Sl.nil, Hb2.out⟩
      | true =>
        rw [hP] at H1 hc
        rw [hQ] at H2 hc
        have Hp := Lib.hid (fun (j : Nat) (x : Int) (h : p[j]? = some x) => permB_at hP h)
        have hcc : cmpP p q = p.map (atI q) := hc
        rw [hcc]
        have h4 := (permB_iff.1 hP).2.2
        clear hc hcc hep heq hm hm' hP hQ
        obtain ⟨a, cap, rfl, hcap, hr⟩ := hv
        obtain ⟨a', cap', rfl, hcap', hr'⟩ := hu
        rw [← hl] at Hu H2 hcap' hr' ⊢
        have Hl := Lib.hid hl
        have Hr := Lib.hid hr
        have Hr' := Lib.hid hr'
        clear hl hr hr'
        have hd2 : ((p.length : Int) != p.length) = false := by simp
        go_enter Try.func14, Try.ntmps14
        go_wp2_with fail
        refine (H1.out _ Hv.out).mono ?_
        rintro e w1 ⟨rfl, hb1⟩
        have Hu1 := Lib.hid (Hu.out.below hb1)
        have Hb1 := Lib.hid hb1
        clear hb1
        go_wp2_with fail
        refine (H2.out _ Hu1.out).mono ?_
        rintro e w2 ⟨rfl, hb2⟩
        have Hb2 := Lib.hid (below_nx Hb1.out hb2)
        have hs2 := Hb2.out.size
        clear hb2
        go_wp2_with (first | (at_make; refine wpList_make_full _ rfl _ _ 24 rfl w2.heap.size 3 i0 (.int .i64 0) 1 Try.underlying24 hi hz0 hz1 .i64 .i64 p.length p.length p.length rfl rfl rfl rfl (by rw [hz2]; omega) (by unfold maxLen; omega) (Nat.le_refl _) ?_))
        intro w3 hown hgrow
        have hb3 : Below w.heap.size w w3 := Hb2.out.grown hgrow hs2 (fun k hk => by cases hk)
        have hrow3 : intE.Row w3 w2.heap.size (cmpZ p q 0) := by
          rcases hown.2 with ⟨h, _⟩ | ⟨g, cap, cur, hv, hb, hg, _, _, hs, ht⟩
          · cases h
          · obtain ⟨rfl, rfl⟩ : g = w2.heap.size ∧ cap = p.length := by injection hv with hv _ hv2; injection hv with hv; injection hv with hv; exact ⟨hv.symm, hv2.symm⟩
            refine ⟨cur, hg, ?_⟩
            rw [cmpZ_zero, List.length_replicate, ← made_ints p.length]
            first | exact ht | simpa [intE] using ht
        have Hb3 := Lib.hid hb3
        have Hrow3 := Lib.hid hrow3
        clear hown hgrow hb3 hrow3
        go_wp2_with fail
        go_loopg [28] p.length (fun n i wr => ∃ j : Nat, n = p.length - j ∧ j ≤ p.length ∧ i = .int .i64 j ∧ Hid (intE.Row wr w2.heap.size (cmpZ p q j)) ∧ Hid (Below w.heap.size w wr))
        case atStart => exact ⟨0, rfl, Nat.zero_le _, rfl, Hrow3, Hb3⟩
        case round =>
          obtain ⟨j, rfl, hj, rfl, Hrow, Hb⟩ := hrel
          by_cases hlt : j < p.length
          · obtain ⟨g, rfl, _, hrow⟩ := Hr.out (by omega)
            obtain ⟨g', rfl, _, hrow'⟩ := Hr'.out (by omega)
            obtain ⟨x, hx⟩ : ∃ x, p[j]? = some x := ⟨p[j], List.getElem?_eq_getElem hlt⟩
            obtain ⟨x0, x1⟩ := Hp.out j x hx
            obtain ⟨k, rfl⟩ : ∃ k : Nat, x = k := ⟨x.toNat, by omega⟩
            have hk : k < p.length := by omega
            obtain ⟨y, hy⟩ : ∃ y, q[k]? = some y := ⟨q[k]'(by have := Hl.out; omega), List.getElem?_eq_getElem _⟩
            have r1 := hrow.below Hb.out hrow.lt
            have r2 := hrow'.below Hb.out hrow'.lt
            have c0 := IRow.cell r1 hx
            have c1 := IRow.cell r2 hy
            have hgl1 := r1.lt
            have hgl2 := r2.lt
            have hgd : atI q (k : Int) = y := by rw [atI, Int.toNat_natCast, List.getD_eq_getElem?_getD, hy]; rfl
            have hzl := cmpZ_len (q := q) hj
            obtain ⟨z, hz⟩ : ∃ z, (cmpZ p q j)[j]? = some z := ⟨(cmpZ p q j)[j]'(by omega), List.getElem?_eq_getElem _⟩
            have e0 := IRow.cell Hrow.out hz
            have f1 := fun o => Hrow.out.free o
            have hgl := Hrow.out.lt
            have hr3 := IRow.put Hrow.out (j := j) (by omega) y
            rw [← hgd, cmpZ_step hx, hgd] at hr3
            have Hr3 := Lib.hid hr3
            clear hr3 hz hx hy hgd r1 r2 hrow hrow' Hrow
            go_wp2_with fail
            go_roundg (p.length - (j + 1))
            case measure => omega
            case rel =>
              refine ⟨j + 1, rfl, by omega, by go_num, by simpa using Hr3, ?_⟩
              have := Hb.out
              show Below _ _ _
              go_grown
          · obtain rfl : j = p.length := by omega
            have hrow := Hrow.out
            rw [cmpZ_all] at hrow
            have Hrow := Lib.hid hrow
            clear hrow
            go_wp2_with fail
            go_ret
            exact ⟨_, rfl, Enc.Sl.mk (by rw [List.length_map]) (Nat.le_refl _) hs2 Hrow.out, Hb.out⟩
  · rw [decide_eq_false hl, Bool.and_false] at hc
    rw [show cmpP p q = [] from hc]
    clear hc hep heq H1 H2 Hu Hv
    obtain ⟨a, cap, rfl, hcap, -⟩ := hv
    obtain ⟨a', cap', rfl, hcap', -⟩ := hu
    have hd2 : ((p.length : Int) != q.length) = true := by simp; omega
    clear hl
    go_enter Try.func14, Try.ntmps14
    go_wp2_with fail
    go_ret
    exact ⟨_, rfl, Enc.Sl.nil, Below.refl _ _⟩
set_option maxRecDepth 100000 in
set_option maxHeartbeats 3200000 in
theorem iinvP (B : Nat) (v : Value) (p : List Int) (w : World) (hv : intE.Sl w B v p) (hep : Ei p) (hm : p.length ≤ 1048576) :
    Calls Try.prog 19 #[v] w fun e w' => ∃ r, e = .returned r ∧ intE.Sl w' w.heap.size r (invP p) ∧ Below w.heap.size w w' := by
  obtain ⟨i0, hi, hz0, hz1, hz2⟩ := info_parts infoInt
  have H1 := Lib.hid (iisP B v p w hv hep hm)
  cases hP : permB p with
  | false =>
    rw [hP] at H1
    rw [show invP p = [] from if_neg (by rw [hP]; decide)]
    clear hep hP
    obtain ⟨a, cap, rfl, hcap, -⟩ := hv
    go_enter Try.func19, Try.ntmps19
    go_wp2_with fail
    refine (H1.out).mono ?_
    rintro e w1 ⟨rfl, hb1⟩
    have Hb1 := Lib.hid hb1
    clear hb1
    go_wp2_with fail
    go_ret
    exact ⟨_, rfl, Enc.Sl.nil, Hb1.out⟩
  | true =>
    rw [hP] at H1
    rw [inv_len0 hP]
    have Hp := Lib.hid (fun (j : Nat) (x : Int) (h : p[j]? = some x) => permB_at hP h)
    have h4 := (permB_iff.1 hP).2.2
    clear hep hP hm
    obtain ⟨a, cap, rfl, hcap, hr⟩ := hv
    have Hr := Lib.hid hr
    clear hr
    go_enter Try.func19, Try.ntmps19
    go_wp2_with fail
    refine (H1.out).mono ?_
    rintro e w0 ⟨rfl, hb0⟩
    have Hb00 := Lib.hid hb0
    have hs0 := hb0.size
    clear hb0
    go_wp2_with (first | (at_make; refine wpList_make_full _ rfl _ _ 24 rfl w0.heap.size 3 i0 (.int .i64 0) 1 Try.underlying24 hi hz0 hz1 .i64 .i64 p.length p.length p.length rfl rfl rfl rfl (by rw [hz2]; omega) (by unfold maxLen; omega) (Nat.le_refl _) ?_))
    intro w1 hown hgrow
    have hb1 : Below w.heap.size w w1 := Hb00.out.grown hgrow hs0 (fun k hk => by cases hk)
    have hrow1 : intE.Row w1 w0.heap.size (List.replicate p.length 0) := by
      rcases hown.2 with ⟨h, _⟩ | ⟨g, cap, cur, hv, hb, hg, _, _, hs, ht⟩
      · cases h
      · obtain ⟨rfl, rfl⟩ : g = w0.heap.size ∧ cap = p.length := by injection hv with hv _ hv2; injection hv with hv; injection hv with hv; exact ⟨hv.symm, hv2.symm⟩
        refine ⟨cur, hg, ?_⟩
        rw [List.length_replicate, ← made_ints p.length]
        first | exact ht | simpa [intE] using ht
    have Hb1 := Lib.hid hb1
    have Hrow1 := Lib.hid hrow1
    clear hown hgrow hb1 hrow1
    go_wp2_with fail
    go_loopg [14] p.length (fun n i wr => ∃ j : Nat, n = p.length - j ∧ j ≤ p.length ∧ i = .int .i64 j ∧ Hid (intE.Row wr w0.heap.size (invS p j)) ∧ Hid (Below w.heap.size w wr))
    case atStart => exact ⟨0, rfl, Nat.zero_le _, rfl, Hrow1, Hb1⟩
    case round =>
      obtain ⟨j, rfl, hj, rfl, Hrow, Hb⟩ := hrel
      by_cases hlt : j < p.length
      · obtain ⟨g, rfl, _, hrow⟩ := Hr.out (by omega)
        obtain ⟨x, hx⟩ : ∃ x, p[j]? = some x := ⟨p[j], List.getElem?_eq_getElem hlt⟩
        obtain ⟨x0, x1⟩ := Hp.out j x hx
        obtain ⟨k, rfl⟩ : ∃ k : Nat, x = k := ⟨x.toNat, by omega⟩
        have hk : k < p.length := by omega
        have c0 := IRow.cell (hrow.below Hb.out hrow.lt) hx
        have hl := invS_len p j
        obtain ⟨z, hz⟩ : ∃ z, (invS p j)[k]? = some z := ⟨(invS p j)[k]'(by omega), List.getElem?_eq_getElem _⟩
        have e0 := IRow.cell Hrow.out hz
        have f1 := fun o => Hrow.out.free o
        have hgl := Hrow.out.lt
        have hgl' := (hrow.below Hb.out hrow.lt).lt
        have hr3 := IRow.put Hrow.out (j := k) (by omega) (j : Int)
        have hst : (invS p j).set k (j : Int) = invS p (j + 1) := by
          rw [invS, List.getD_eq_getElem?_getD, hx]; rfl
        rw [hst] at hr3
        have Hr3 := Lib.hid hr3
        clear hr3 hst hrow hx hz Hrow
        go_wp2_with fail
        go_roundg (p.length - (j + 1))
        case measure => omega
        case rel =>
          refine ⟨j + 1, rfl, by omega, by go_num, by simpa using Hr3, ?_⟩
          have := Hb.out
          show Below _ _ _
          go_grown
      · obtain rfl : j = p.length := by omega
        go_wp2_with fail
        go_ret
        exact ⟨_, rfl, Enc.Sl.mk (by rw [invS_len]) (Nat.le_refl _) hs0 Hrow.out, Hb.out⟩
end Go.Proofs.Ytfmgjhaofbdlpaa
