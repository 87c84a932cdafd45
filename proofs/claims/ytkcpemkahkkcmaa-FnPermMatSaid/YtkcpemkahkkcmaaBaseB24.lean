/- BaseB24: several of our texts in one: PmKc PmKm PmK. -/
import Derived.Test.YtkcpemkahkkcmaaBaseB26
import Derived.Test.YtkcpemkahkkcmaaPmKx
import Derived.Test.YtkcpemkahkkcmaaBaseB22
import Derived.Test.YtkcpemkahkkcmaaPmU
import Derived.Test.YtkcpemkahkkcmaaBaseB27
import Derived.Test.YtkcpemkahkkcmaaBaseB04
namespace Go.Proofs.Ytkcpemkahkkcmaa
open Go.RowKit
attribute [local irreducible] World.cell?
set_option maxRecDepth 100000 in
set_option maxHeartbeats 3200000 in
theorem iinvP (B : Nat) (v : Value) (p : List Int) (w : World) (hv : intE.Sl w B v p) (hep : Ei p) (hm : p.length ≤ 1048576) :
    Calls Try.prog 38 #[v] w fun e w' => ∃ r, e = .returned r ∧ intE.Sl w' w.heap.size r (invP p) ∧ Below w.heap.size w w' := by
  obtain ⟨i0, hi, hz0, hz1, hz2⟩ := info_parts infoInt
  have H1 := Lib.hid (iisP B v p w hv hep hm)
  cases hP : permB p with
  | false =>
    rw [hP] at H1
    rw [show invP p = [] from if_neg (by rw [hP]; decide)]
    clear hep hP
    obtain ⟨a, cap, rfl, hcap, -⟩ := hv
    go_enter Try.func38, Try.ntmps38
    go_wp2_with fail
    refine (H1.out).mono ?_
    rintro e w1 ⟨rfl, hb1⟩
    have Hb1 := Lib.hid hb1
    clear hb1
    go_wp2_with fail
    go_ret
    exact ⟨_, rfl, Enc.Sl.nil, Hb1.out⟩
  | true =>
    rw [hP] at H1
    rw [inv_len0 hP]
    have Hp := Lib.hid (fun (j : Nat) (x : Int) (h : p[j]? = some x) => permB_at hP h)
    have h4 := (permB_iff.1 hP).2.2
    clear hep hP hm
    obtain ⟨a, cap, rfl, hcap, hr⟩ := hv
    have Hr := Lib.hid hr
    clear hr
    go_enter Try.func38, Try.ntmps38
    go_wp2_with fail
    refine (H1.out).mono ?_
    rintro e w0 ⟨rfl, hb0⟩
    have Hb00 := Lib.hid hb0
    have hs0 := hb0.size
    clear hb0
    go_wp2_with (first | (at_make; refine wpList_make_full _ rfl _ _ 39 rfl w0.heap.size 3 i0 (.int .i64 0) 1 Try.underlying39 hi hz0 hz1 .i64 .i64 p.length p.length p.length rfl rfl rfl rfl (by rw [hz2]; omega) (by unfold maxLen; omega) (Nat.le_refl _) ?_))
    intro w1 hown hgrow
    have hb1 : Below w.heap.size w w1 := Hb00.out.grown hgrow hs0 (fun k hk => by cases hk)
    have hrow1 : intE.Row w1 w0.heap.size (List.replicate p.length 0) := by
      rcases hown.2 with ⟨h, _⟩ | ⟨g, cap, cur, hv, hb, hg, _, _, hs, ht⟩
      · cases h
      · obtain ⟨rfl, rfl⟩ : g = w0.heap.size ∧ cap = p.length := by injection hv with hv _ hv2; injection hv with hv; injection hv with hv; exact ⟨hv.symm, hv2.symm⟩
        refine ⟨cur, hg, ?_⟩
        rw [List.length_replicate, ← made_ints p.length]
        first | exact ht | simpa [intE] using ht
    have Hb1 := Lib.hid hb1
    have Hrow1 := Lib.hid hrow1
    clear hown hgrow hb1 hrow1
    go_wp2_with fail
    go_loopg [14] p.length (fun n i wr => ∃ j : Nat, n = p.length - j ∧ j ≤ p.length ∧ i = .int .i64 j ∧ Hid (intE.Row wr w0.heap.size (invS p j)) ∧ Hid (Below w.heap.size w wr))
    case atStart => exact ⟨0, rfl, Nat.zero_le _, rfl, Hrow1, Hb1⟩
    case round =>
      obtain ⟨j, rfl, hj, rfl, Hrow, Hb⟩ := hrel
      by_cases hlt : j < p.length
      · obtain ⟨g, rfl, _, hrow⟩ := Hr.out (by omega)
        obtain ⟨x, hx⟩ : ∃ x, p[j]? = some x := ⟨p[j], List.getElem?_eq_getElem hlt⟩
        obtain ⟨x0, x1⟩ := Hp.out j x hx
        obtain ⟨k, rfl⟩ : ∃ k : Nat, x = k := ⟨x.toNat, by omega⟩
        have hk : k < p.length := by omega
        have c0 := IRow.cell (hrow.below Hb.out hrow.lt) hx
        have hl := invS_len p j
        obtain ⟨z, hz⟩ : ∃ z, (invS p j)[k]? = some z := ⟨(invS p j)[k]'(by omega), List.getElem?_eq_getElem _⟩
        have e0 := IRow.cell Hrow.out hz
        have f1 := fun o => Hrow.out.free o
        have hgl := Hrow.out.lt
        have hgl' := (hrow.below Hb.out hrow.lt).lt
        have hr3 := IRow.put Hrow.out (j := k) (by omega) (j : Int)
        have hst : (invS p j).set k (j : Int) = invS p (j + 1) := by
          rw [invS, List.getD_eq_getElem?_getD, hx]; rfl
        rw [hst] at hr3
        have Hr3 := Lib.hid hr3
        clear hr3 hst hrow hx hz Hrow
        go_wp2_with fail
        go_roundg (p.length - (j + 1))
        case measure => omega
        case rel =>
          refine ⟨j + 1, rfl, by omega, by go_num, by simpa using Hr3, ?_⟩
          have := Hb.out
          show Below _ _ _
          go_grown
      · obtain rfl : j = p.length := by omega
        go_wp2_with fail
        go_ret
        exact ⟨_, rfl, Enc.Sl.mk (by rw [invS_len]) (Nat.le_refl _) hs0 Hrow.out, Hb.out⟩
end Go.Proofs.Ytkcpemkahkkcmaa
namespace Go.Proofs.Ytkcpemkahkkcmaa
open Go.RowKit
attribute [local irreducible] World.cell?
set_option maxRecDepth 100000 in
set_option maxHeartbeats 3200000 in
theorem ipm1 (B : Nat) (v : Value) (p : List Int) (w : World) (hv : intE.Sl w B v p) (hep : Ei p) (hP : permB p = true) (hl : p.length = 1) :
    Calls Try.prog 34 #[v] w fun e w' => ∃ u, e = .returned u ∧ DSM w' w.heap.size w'.heap.size u (pmM p) ∧ Below w.heap.size w w' := by
  obtain ⟨i0, hi, hz0, hz1, hz2⟩ := info_parts infoDs
  have Hv := Lib.hid hv
  have H1 := Lib.hid (fun W (h : intE.Sl W B v p) => iisP B v p W h hep (by omega))
  rw [hP] at H1
  have H2 := Lib.hid (fun (j : Nat) (hj : j < 2) W (h : intE.Sl W B v p) => ipix B v p (j : Int) W h hep (by omega) (by omega) (by omega))
  have H3 := Lib.hid (fun (j : Nat) (hj : j < 2) W => ibasis 1 (j : Int) W (by omega) (by omega) (by omega) (by omega))
  have Hnn := Lib.hid (fun (j : Nat) => pix_rg (p := p) (j : Int))
  have Hat := Lib.hid (fun (j : Nat) (hj : j < 2) => pmZ_at hP (j := j) (by rw [hl]; omega))
  have Hst := Lib.hid (fun (j : Nat) => show (pmZ p j).set (pix p (j : Int)).toNat (basisL 1 (j : Int)) = pmZ p (j + 1) by rw [pmZ, hl]; rfl)
  have Hlen := Lib.hid (fun (j : Nat) => show (pmZ p j).length = 2 by rw [pmZ_len, hl])
  have Hall := Lib.hid (show pmZ p 2 = pmM p by have h := pmZ_all hP; rwa [hl] at h)
  have Hz := Lib.hid (show pmZ p 0 = List.replicate 2 [] by rw [pmZ, hl])
  clear hep hP
  obtain ⟨a, cap, rfl, hcap, -⟩ := hv
  rw [hl] at hcap Hv H1 H2 ⊢
  clear hl
  go_enter Try.func34, Try.ntmps34
  go_wp2_with fail
  refine (H1.out _ Hv.out).mono ?_
  rintro e w0 ⟨rfl, hb0⟩
  have Hb0 := Lib.hid hb0
  have hs0 := hb0.size
  clear hb0
  go_wp2_with (first | (at_make; refine wpList_make_full _ rfl _ _ 24 rfl w0.heap.size 31 i0 (.slice none 0 0) 1 Try.underlying24 hi hz0 hz1 .i64 .i64 2 2 2 rfl rfl rfl rfl (by rw [hz2]; omega) (by unfold maxLen; omega) (Nat.le_refl _) ?_))
  intro w1 hown hgrow
  have hb1 : Below w.heap.size w w1 := Hb0.out.grown hgrow hs0 (fun k hk => by cases hk)
  have hrow1 : MRow w1 w0.heap.size w1.heap.size w0.heap.size (pmZ p 0) := by
    rcases hown.2 with ⟨h, _⟩ | ⟨g, cap, cur, hv, hb, hg, _, _, hs, ht⟩
    · cases h
    · obtain ⟨rfl, rfl⟩ : g = w0.heap.size ∧ cap = 2 := by injection hv with hv _ hv2; injection hv with hv; injection hv with hv; exact ⟨hv.symm, hv2.symm⟩
      rw [Hz.out]
      refine ⟨cur, _, hg, ?_, rows_nil (n := 2)⟩
      rw [List.length_replicate, ← made_slices 2]
      first | exact ht | simpa using ht
  have Hb1 := Lib.hid hb1
  have Hrow1 := Lib.hid hrow1
  clear hown hgrow hb1 hrow1
  go_wp2_with fail
  go_loopg [14] 2 (fun n i wr => ∃ j : Nat, n = 2 - j ∧ j ≤ 2 ∧ i = .int .i64 j ∧ Hid (MRow wr w0.heap.size wr.heap.size w0.heap.size (pmZ p j)) ∧ Hid (Below w.heap.size w wr))
  case atStart => exact ⟨0, rfl, Nat.zero_le _, rfl, Hrow1, Hb1⟩
  case round =>
    obtain ⟨j, rfl, hj, rfl, Hrow, Hb⟩ := hrel
    have hs := Hb.out.size
    have hgl0 := Hrow.out.lt
    by_cases hlt : j < 2
    · have hlt' : (j : Int) < 2 := by omega
      have H2r := Lib.hid (H2.out j hlt wr (Hv.out.block fun g _ hg => Hb.out.block g hg))
      have H3r := Lib.hid (fun W => H3.out j hlt W)
      have Ha := Lib.hid (Hat.out j hlt)
      have Hset := Lib.hid (Hst.out j)
      have hlz := Hlen.out j
      obtain ⟨k, hk⟩ : ∃ k : Nat, pix p (j : Int) = k := ⟨(pix p (j : Int)).toNat, by have := Hnn.out j; omega⟩
      rw [hk] at H2r Ha Hset
      rw [Int.toNat_natCast] at Ha Hset
      have hkN : k < 2 := by
        have h := Ha.out
        rcases Nat.lt_or_ge k (pmZ p j).length with h' | h'
        · omega
        · rw [List.getElem?_eq_none h'] at h; cases h
      generalize basisL 1 (j : Int) = r at *
      clear hk
      go_wp2_with fail
      refine (H2r.out).mono ?_
      rintro e w2 ⟨rfl, hb2⟩
      have hr2 := Hrow.out.block (hb2.block _ Hrow.out.lt) fun k _ _ hk => hb2.block k hk
      have Hrow2 := Lib.hid (hr2.mono (Nat.le_refl _) hb2.size)
      have Hb2 := Lib.hid (Hb.out.trans (hb2.mono hs))
      have hs2 := Hb2.out.size
      clear hb2 hr2 Hrow Hb H2r
      go_wp2_with fail
      refine (H3r.out _).mono ?_
      rintro e w3 ⟨v, rfl, hds, hb3⟩
      have hr3 := Hrow2.out.block (hb3.block _ Hrow2.out.lt) fun k _ _ hk => hb3.block k hk
      have f1 := fun o => hr3.free o
      obtain ⟨a9, c9, e0, -⟩ := hr3.cell Ha.out
      have hgl := Nat.lt_of_lt_of_le Hrow2.out.lt hb3.size
      have hr4 := Hrow2.out.put (j := k) (by omega) hds.upto (by have := Hrow2.out.lt; omega) hb3.size fun k hk => hb3.block k hk
      rw [Hset.out] at hr4
      have Hr4 := Lib.hid hr4
      have Hb3 := Lib.hid (Hb2.out.trans (hb3.mono hs2))
      obtain ⟨a2, cap3, rfl, _⟩ := hds
      clear hr4 hr3 hb3 Hrow2 H3r H3 Hat Ha
      go_wp2_with fail
      go_roundg (2 - (j + 1))
      case measure => omega
      case rel =>
        refine ⟨j + 1, rfl, by omega, by go_num, by simpa using Hr4, ?_⟩
        have := Hb3.out
        show Below _ _ _
        go_grown
    · obtain rfl : j = 2 := by omega
      have hrow := Hrow.out
      have hln := Hlen.out 2
      rw [Hall.out] at hrow hln
      have HD := Lib.hid (show DSM wr w.heap.size wr.heap.size (.slice (some ⟨w0.heap.size, 0, none⟩) 2 2) (pmM p) from ⟨_, _, by rw [hln], by rw [hln]; exact Nat.le_refl _, fun _ => ⟨_, rfl, hs0, hrow.lt, hrow.mono hs0 (Nat.le_refl _)⟩⟩)
      clear hrow Hrow hln
      go_wp2_with fail
      go_ret
      exact ⟨_, rfl, HD.out, Hb.out⟩
set_option maxRecDepth 100000 in
set_option maxHeartbeats 3200000 in
theorem ipm2 (B : Nat) (v : Value) (p : List Int) (w : World) (hv : intE.Sl w B v p) (hep : Ei p) (hP : permB p = true) (hl : p.length = 2) :
    Calls Try.prog 34 #[v] w fun e w' => ∃ u, e = .returned u ∧ DSM w' w.heap.size w'.heap.size u (pmM p) ∧ Below w.heap.size w w' := by
  obtain ⟨i0, hi, hz0, hz1, hz2⟩ := info_parts infoDs
  have Hv := Lib.hid hv
  have H1 := Lib.hid (fun W (h : intE.Sl W B v p) => iisP B v p W h hep (by omega))
  rw [hP] at H1
  have H2 := Lib.hid (fun (j : Nat) (hj : j < 4) W (h : intE.Sl W B v p) => ipix B v p (j : Int) W h hep (by omega) (by omega) (by omega))
  have H3 := Lib.hid (fun (j : Nat) (hj : j < 4) W => ibasis 2 (j : Int) W (by omega) (by omega) (by omega) (by omega))
  have Hnn := Lib.hid (fun (j : Nat) => pix_rg (p := p) (j : Int))
  have Hat := Lib.hid (fun (j : Nat) (hj : j < 4) => pmZ_at hP (j := j) (by rw [hl]; omega))
  have Hst := Lib.hid (fun (j : Nat) => show (pmZ p j).set (pix p (j : Int)).toNat (basisL 2 (j : Int)) = pmZ p (j + 1) by rw [pmZ, hl]; rfl)
  have Hlen := Lib.hid (fun (j : Nat) => show (pmZ p j).length = 4 by rw [pmZ_len, hl])
  have Hall := Lib.hid (show pmZ p 4 = pmM p by have h := pmZ_all hP; rwa [hl] at h)
  have Hz := Lib.hid (show pmZ p 0 = List.replicate 4 [] by rw [pmZ, hl])
  clear hep hP
  obtain ⟨a, cap, rfl, hcap, -⟩ := hv
  rw [hl] at hcap Hv H1 H2 ⊢
  clear hl
  go_enter Try.func34, Try.ntmps34
  go_wp2_with fail
  refine (H1.out _ Hv.out).mono ?_
  rintro e w0 ⟨rfl, hb0⟩
  have Hb0 := Lib.hid hb0
  have hs0 := hb0.size
  clear hb0
  go_wp2_with (first | (at_make; refine wpList_make_full _ rfl _ _ 24 rfl w0.heap.size 31 i0 (.slice none 0 0) 1 Try.underlying24 hi hz0 hz1 .i64 .i64 4 4 4 rfl rfl rfl rfl (by rw [hz2]; omega) (by unfold maxLen; omega) (Nat.le_refl _) ?_))
  intro w1 hown hgrow
  have hb1 : Below w.heap.size w w1 := Hb0.out.grown hgrow hs0 (fun k hk => by cases hk)
  have hrow1 : MRow w1 w0.heap.size w1.heap.size w0.heap.size (pmZ p 0) := by
    rcases hown.2 with ⟨h, _⟩ | ⟨g, cap, cur, hv, hb, hg, _, _, hs, ht⟩
    · cases h
    · obtain ⟨rfl, rfl⟩ : g = w0.heap.size ∧ cap = 4 := by injection hv with hv _ hv2; injection hv with hv; injection hv with hv; exact ⟨hv.symm, hv2.symm⟩
      rw [Hz.out]
      refine ⟨cur, _, hg, ?_, rows_nil (n := 4)⟩
      rw [List.length_replicate, ← made_slices 4]
      first | exact ht | simpa using ht
  have Hb1 := Lib.hid hb1
  have Hrow1 := Lib.hid hrow1
  clear hown hgrow hb1 hrow1
  go_wp2_with fail
  go_loopg [14] 4 (fun n i wr => ∃ j : Nat, n = 4 - j ∧ j ≤ 4 ∧ i = .int .i64 j ∧ Hid (MRow wr w0.heap.size wr.heap.size w0.heap.size (pmZ p j)) ∧ Hid (Below w.heap.size w wr))
  case atStart => exact ⟨0, rfl, Nat.zero_le _, rfl, Hrow1, Hb1⟩
  case round =>
    obtain ⟨j, rfl, hj, rfl, Hrow, Hb⟩ := hrel
    have hs := Hb.out.size
    have hgl0 := Hrow.out.lt
    by_cases hlt : j < 4
    · have hlt' : (j : Int) < 4 := by omega
      have H2r := Lib.hid (H2.out j hlt wr (Hv.out.block fun g _ hg => Hb.out.block g hg))
      have H3r := Lib.hid (fun W => H3.out j hlt W)
      have Ha := Lib.hid (Hat.out j hlt)
      have Hset := Lib.hid (Hst.out j)
      have hlz := Hlen.out j
      obtain ⟨k, hk⟩ : ∃ k : Nat, pix p (j : Int) = k := ⟨(pix p (j : Int)).toNat, by have := Hnn.out j; omega⟩
      rw [hk] at H2r Ha Hset
      rw [Int.toNat_natCast] at Ha Hset
      have hkN : k < 4 := by
        have h := Ha.out
        rcases Nat.lt_or_ge k (pmZ p j).length with h' | h'
        · omega
        · rw [List.getElem?_eq_none h'] at h; cases h
      generalize basisL 2 (j : Int) = r at *
      clear hk
      go_wp2_with fail
      refine (H2r.out).mono ?_
      rintro e w2 ⟨rfl, hb2⟩
      have hr2 := Hrow.out.block (hb2.block _ Hrow.out.lt) fun k _ _ hk => hb2.block k hk
      have Hrow2 := Lib.hid (hr2.mono (Nat.le_refl _) hb2.size)
      have Hb2 := Lib.hid (Hb.out.trans (hb2.mono hs))
      have hs2 := Hb2.out.size
      clear hb2 hr2 Hrow Hb H2r
      go_wp2_with fail
      refine (H3r.out _).mono ?_
      rintro e w3 ⟨v, rfl, hds, hb3⟩
      have hr3 := Hrow2.out.block (hb3.block _ Hrow2.out.lt) fun k _ _ hk => hb3.block k hk
      have f1 := fun o => hr3.free o
      obtain ⟨a9, c9, e0, -⟩ := hr3.cell Ha.out
      have hgl := Nat.lt_of_lt_of_le Hrow2.out.lt hb3.size
      have hr4 := Hrow2.out.put (j := k) (by omega) hds.upto (by have := Hrow2.out.lt; omega) hb3.size fun k hk => hb3.block k hk
      rw [Hset.out] at hr4
      have Hr4 := Lib.hid hr4
      have Hb3 := Lib.hid (Hb2.out.trans (hb3.mono hs2))
      obtain ⟨a2, cap3, rfl, _⟩ := hds
      clear hr4 hr3 hb3 Hrow2 H3r H3 Hat Ha
      go_wp2_with fail
      go_roundg (4 - (j + 1))
      case measure => omega
      case rel =>
        refine ⟨j + 1, rfl, by omega, by go_num, by simpa using Hr4, ?_⟩
        have := Hb3.out
        show Below _ _ _
        go_grown
    · obtain rfl : j = 4 := by omega
      have hrow := Hrow.out
      have hln := Hlen.out 4
      rw [Hall.out] at hrow hln
      have HD := Lib.hid (show DSM wr w.heap.size wr.heap.size (.slice (some ⟨w0.heap.size, 0, none⟩) 4 4) (pmM p) from ⟨_, _, by rw [hln], by rw [hln]; exact Nat.le_refl _, fun _ => ⟨_, rfl, hs0, hrow.lt, hrow.mono hs0 (Nat.le_refl _)⟩⟩)
      clear hrow Hrow hln
      go_wp2_with fail
      go_ret
      exact ⟨_, rfl, HD.out, Hb.out⟩
set_option maxRecDepth 100000 in
set_option maxHeartbeats 3200000 in
theorem ipm3 (B : Nat) (v : Value) (p : List Int) (w : World) (hv : intE.Sl w B v p) (hep : Ei p) (hP : permB p = true) (hl : p.length = 3) :
    Calls Try.prog 34 #[v] w fun e w' => ∃ u, e = .returned u ∧ DSM w' w.heap.size w'.heap.size u (pmM p) ∧ Below w.heap.size w w' := by
  obtain ⟨i0, hi, hz0, hz1, hz2⟩ := info_parts infoDs
  have Hv := Lib.hid hv
  have H1 := Lib.hid (fun W (h : intE.Sl W B v p) => iisP B v p W h hep (by omega))
  rw [hP] at H1
  have H2 := Lib.hid (fun (j : Nat) (hj : j < 8) W (h : intE.Sl W B v p) => ipix B v p (j : Int) W h hep (by omega) (by omega) (by omega))
  have H3 := Lib.hid (fun (j : Nat) (hj : j < 8) W => ibasis 3 (j : Int) W (by omega) (by omega) (by omega) (by omega))
  have Hnn := Lib.hid (fun (j : Nat) => pix_rg (p := p) (j : Int))
  have Hat := Lib.hid (fun (j : Nat) (hj : j < 8) => pmZ_at hP (j := j) (by rw [hl]; omega))
  have Hst := Lib.hid (fun (j : Nat) => show (pmZ p j).set (pix p (j : Int)).toNat (basisL 3 (j : Int)) = pmZ p (j + 1) by rw [pmZ, hl]; rfl)
  have Hlen := Lib.hid (fun (j : Nat) => show (pmZ p j).length = 8 by rw [pmZ_len, hl])
  have Hall := Lib.hid (show pmZ p 8 = pmM p by have h := pmZ_all hP; rwa [hl] at h)
  have Hz := Lib.hid (show pmZ p 0 = List.replicate 8 [] by rw [pmZ, hl])
  clear hep hP
  obtain ⟨a, cap, rfl, hcap, -⟩ := hv
  rw [hl] at hcap Hv H1 H2 ⊢
  clear hl
  go_enter Try.func34, Try.ntmps34
  go_wp2_with fail
  refine (H1.out _ Hv.out).mono ?_
  rintro e w0 ⟨rfl, hb0⟩
  have Hb0 := Lib.hid hb0
  have hs0 := hb0.size
  clear hb0
  go_wp2_with (first | (at_make; refine wpList_make_full _ rfl _ _ 24 rfl w0.heap.size 31 i0 (.slice none 0 0) 1 Try.underlying24 hi hz0 hz1 .i64 .i64 8 8 8 rfl rfl rfl rfl (by rw [hz2]; omega) (by unfold maxLen; omega) (Nat.le_refl _) ?_))
  intro w1 hown hgrow
  have hb1 : Below w.heap.size w w1 := Hb0.out.grown hgrow hs0 (fun k hk => by cases hk)
  have hrow1 : MRow w1 w0.heap.size w1.heap.size w0.heap.size (pmZ p 0) := by
    rcases hown.2 with ⟨h, _⟩ | ⟨g, cap, cur, hv, hb, hg, _, _, hs, ht⟩
    · cases h
    · obtain ⟨rfl, rfl⟩ : g = w0.heap.size ∧ cap = 8 := by injection hv with hv _ hv2; injection hv with hv; injection hv with hv; exact ⟨hv.symm, hv2.symm⟩
      rw [Hz.out]
      refine ⟨cur, _, hg, ?_, rows_nil (n := 8)⟩
      rw [List.length_replicate, ← made_slices 8]
      first | exact ht | simpa using ht
  have Hb1 := Lib.hid hb1
  have Hrow1 := Lib.hid hrow1
  clear hown hgrow hb1 hrow1
  go_wp2_with fail
  go_loopg [14] 8 (fun n i wr => ∃ j : Nat, n = 8 - j ∧ j ≤ 8 ∧ i = .int .i64 j ∧ Hid (MRow wr w0.heap.size wr.heap.size w0.heap.size (pmZ p j)) ∧ Hid (Below w.heap.size w wr))
  case atStart => exact ⟨0, rfl, Nat.zero_le _, rfl, Hrow1, Hb1⟩
  case round =>
    obtain ⟨j, rfl, hj, rfl, Hrow, Hb⟩ := hrel
    have hs := Hb.out.size
    have hgl0 := Hrow.out.lt
    by_cases hlt : j < 8
    · have hlt' : (j : Int) < 8 := by omega
      have H2r := Lib.hid (H2.out j hlt wr (Hv.out.block fun g _ hg => Hb.out.block g hg))
      have H3r := Lib.hid (fun W => H3.out j hlt W)
      have Ha := Lib.hid (Hat.out j hlt)
      have Hset := Lib.hid (Hst.out j)
      have hlz := Hlen.out j
      obtain ⟨k, hk⟩ : ∃ k : Nat, pix p (j : Int) = k := ⟨(pix p (j : Int)).toNat, by have := Hnn.out j; omega⟩
      rw [hk] at H2r Ha Hset
      rw [Int.toNat_natCast] at Ha Hset
      have hkN : k < 8 := by
        have h := Ha.out
        rcases Nat.lt_or_ge k (pmZ p j).length with h' | h'
        · omega
        · rw [List.getElem?_eq_none h'] at h; cases h
      generalize basisL 3 (j : Int) = r at *
      clear hk
      go_wp2_with fail
      refine (H2r.out).mono ?_
      rintro e w2 ⟨rfl, hb2⟩
      have hr2 := Hrow.out.block (hb2.block _ Hrow.out.lt) fun k _ _ hk => hb2.block k hk
      have Hrow2 := Lib.hid (hr2.mono (Nat.le_refl _) hb2.size)
      have Hb2 := Lib.hid (Hb.out.trans (hb2.mono hs))
      have hs2 := Hb2.out.size
      clear hb2 hr2 Hrow Hb H2r
      go_wp2_with fail
      refine (H3r.out _).mono ?_
      rintro e w3 ⟨v, rfl, hds, hb3⟩
      have hr3 := Hrow2.out.block (hb3.block _ Hrow2.out.lt) fun k _ _ hk => hb3.block k hk
      have f1 := fun o => hr3.free o
      obtain ⟨a9, c9, e0, -⟩ := hr3.cell Ha.out
      have hgl := Nat.lt_of_lt_of_le Hrow2.out.lt hb3.size
      have hr4 := Hrow2.out.put (j := k) (by omega) hds.upto (by have := Hrow2.out.lt; omega) hb3.size fun k hk => hb3.block k hk
      rw [Hset.out] at hr4
      have Hr4 := Lib.hid hr4
      have Hb3 := Lib.hid (Hb2.out.trans (hb3.mono hs2))
      obtain ⟨a2, cap3, rfl, _⟩ := hds
      clear hr4 hr3 hb3 Hrow2 H3r H3 Hat Ha
      go_wp2_with fail
      go_roundg (8 - (j + 1))
      case measure => omega
      case rel =>
        refine ⟨j + 1, rfl, by omega, by go_num, by simpa using Hr4, ?_⟩
        have := Hb3.out
        show Below _ _ _
        go_grown
    · obtain rfl : j = 8 := by omega
      have hrow := Hrow.out
      have hln := Hlen.out 8
      rw [Hall.out] at hrow hln
      have HD := Lib.hid (show DSM wr w.heap.size wr.heap.size (.slice (some ⟨w0.heap.size, 0, none⟩) 8 8) (pmM p) from ⟨_, _, by rw [hln], by rw [hln]; exact Nat.le_refl _, fun _ => ⟨_, rfl, hs0, hrow.lt, hrow.mono hs0 (Nat.le_refl _)⟩⟩)
      clear hrow Hrow hln
      go_wp2_with fail
      go_ret
      exact ⟨_, rfl, HD.out, Hb.out⟩
set_option maxRecDepth 100000 in
set_option maxHeartbeats 3200000 in
theorem ipm4 (B : Nat) (v : Value) (p : List Int) (w : World) (hv : intE.Sl w B v p) (hep : Ei p) (hP : permB p = true) (hl : p.length = 4) :
    Calls Try.prog 34 #[v] w fun e w' => ∃ u, e = .returned u ∧ DSM w' w.heap.size w'.heap.size u (pmM p) ∧ Below w.heap.size w w' := by
  obtain ⟨i0, hi, hz0, hz1, hz2⟩ := info_parts infoDs
  have Hv := Lib.hid hv
  have H1 := Lib.hid (fun W (h : intE.Sl W B v p) => iisP B v p W h hep (by omega))
  rw [hP] at H1
  have H2 := Lib.hid (fun (j : Nat) (hj : j < 16) W (h : intE.Sl W B v p) => ipix B v p (j : Int) W h hep (by omega) (by omega) (by omega))
  have H3 := Lib.hid (fun (j : Nat) (hj : j < 16) W => ibasis 4 (j : Int) W (by omega) (by omega) (by omega) (by omega))
  have Hnn := Lib.hid (fun (j : Nat) => pix_rg (p := p) (j : Int))
  have Hat := Lib.hid (fun (j : Nat) (hj : j < 16) => pmZ_at hP (j := j) (by rw [hl]; omega))
  have Hst := Lib.hid (fun (j : Nat) => show (pmZ p j).set (pix p (j : Int)).toNat (basisL 4 (j : Int)) = pmZ p (j + 1) by rw [pmZ, hl]; rfl)
  have Hlen := Lib.hid (fun (j : Nat) => show (pmZ p j).length = 16 by rw [pmZ_len, hl])
  have Hall := Lib.hid (show pmZ p 16 = pmM p by have h := pmZ_all hP; rwa [hl] at h)
  have Hz := Lib.hid (show pmZ p 0 = List.replicate 16 [] by rw [pmZ, hl])
  clear hep hP
  obtain ⟨a, cap, rfl, hcap, -⟩ := hv
  rw [hl] at hcap Hv H1 H2 ⊢
  clear hl
  go_enter Try.func34, Try.ntmps34
  go_wp2_with fail
  refine (H1.out _ Hv.out).mono ?_
  rintro e w0 ⟨rfl, hb0⟩
  have Hb0 := Lib.hid hb0
  have hs0 := hb0.size
  clear hb0
  go_wp2_with (first | (at_make; refine wpList_make_full _ rfl _ _ 24 rfl w0.heap.size 31 i0 (.slice none 0 0) 1 Try.underlying24 hi hz0 hz1 .i64 .i64 16 16 16 rfl rfl rfl rfl (by rw [hz2]; omega) (by unfold maxLen; omega) (Nat.le_refl _) ?_))
  intro w1 hown hgrow
  have hb1 : Below w.heap.size w w1 := Hb0.out.grown hgrow hs0 (fun k hk => by cases hk)
  have hrow1 : MRow w1 w0.heap.size w1.heap.size w0.heap.size (pmZ p 0) := by
    rcases hown.2 with ⟨h, _⟩ | ⟨g, cap, cur, hv, hb, hg, _, _, hs, ht⟩
    · cases h
    · obtain ⟨rfl, rfl⟩ : g = w0.heap.size ∧ cap = 16 := by injection hv with hv _ hv2; injection hv with hv; injection hv with hv; exact ⟨hv.symm, hv2.symm⟩
      rw [Hz.out]
      refine ⟨cur, _, hg, ?_, rows_nil (n := 16)⟩
      rw [List.length_replicate, ← made_slices 16]
      first | exact ht | simpa using ht
  have Hb1 := Lib.hid hb1
  have Hrow1 := Lib.hid hrow1
  clear hown hgrow hb1 hrow1
  go_wp2_with fail
  go_loopg [14] 16 (fun n i wr => ∃ j : Nat, n = 16 - j ∧ j ≤ 16 ∧ i = .int .i64 j ∧ Hid (MRow wr w0.heap.size wr.heap.size w0.heap.size (pmZ p j)) ∧ Hid (Below w.heap.size w wr))
  case atStart => exact ⟨0, rfl, Nat.zero_le _, rfl, Hrow1, Hb1⟩
  case round =>
    obtain ⟨j, rfl, hj, rfl, Hrow, Hb⟩ := hrel
    have hs := Hb.out.size
    have hgl0 := Hrow.out.lt
    by_cases hlt : j < 16
    · have hlt' : (j : Int) < 16 := by omega
      have H2r := Lib.hid (H2.out j hlt wr (Hv.out.block fun g _ hg => Hb.out.block g hg))
      have H3r := Lib.hid (fun W => H3.out j hlt W)
      have Ha := Lib.hid (Hat.out j hlt)
      have Hset := Lib.hid (Hst.out j)
      have hlz := Hlen.out j
      obtain ⟨k, hk⟩ : ∃ k : Nat, pix p (j : Int) = k := ⟨(pix p (j : Int)).toNat, by have := Hnn.out j; omega⟩
      rw [hk] at H2r Ha Hset
      rw [Int.toNat_natCast] at Ha Hset
      have hkN : k < 16 := by
        have h := Ha.out
        rcases Nat.lt_or_ge k (pmZ p j).length with h' | h'
        · omega
        · rw [List.getElem?_eq_none h'] at h; cases h
      generalize basisL 4 (j : Int) = r at *
      clear hk
      go_wp2_with fail
      refine (H2r.out).mono ?_
      rintro e w2 ⟨rfl, hb2⟩
      have hr2 := Hrow.out.block (hb2.block _ Hrow.out.lt) fun k _ _ hk => hb2.block k hk
      have Hrow2 := Lib.hid (hr2.mono (Nat.le_refl _) hb2.size)
      have Hb2 := Lib.hid (Hb.out.trans (hb2.mono hs))
      have hs2 := Hb2.out.size
      clear hb2 hr2 Hrow Hb H2r
      go_wp2_with fail
      refine (H3r.out _).mono ?_
      rintro e w3 ⟨v, rfl, hds, hb3⟩
      have hr3 := Hrow2.out.block (hb3.block _ Hrow2.out.lt) fun k _ _ hk => hb3.block k hk
      have f1 := fun o => hr3.free o
      obtain ⟨a9, c9, e0, -⟩ := hr3.cell Ha.out
      have hgl := Nat.lt_of_lt_of_le Hrow2.out.lt hb3.size
      have hr4 := Hrow2.out.put (j := k) (by omega) hds.upto (by have := Hrow2.out.lt; omega) hb3.size fun k hk => hb3.block k hk
      rw [Hset.out] at hr4
      have Hr4 := Lib.hid hr4
      have Hb3 := Lib.hid (Hb2.out.trans (hb3.mono hs2))
      obtain ⟨a2, cap3, rfl, _⟩ := hds
      clear hr4 hr3 hb3 Hrow2 H3r H3 Hat Ha
      go_wp2_with fail
      go_roundg (16 - (j + 1))
      case measure => omega
      case rel =>
        refine ⟨j + 1, rfl, by omega, by go_num, by simpa using Hr4, ?_⟩
        have := Hb3.out
        show Below _ _ _
        go_grown
    · obtain rfl : j = 16 := by omega
      have hrow := Hrow.out
      have hln := Hlen.out 16
      rw [Hall.out] at hrow hln
      have HD := Lib.hid (show DSM wr w.heap.size wr.heap.size (.slice (some ⟨w0.heap.size, 0, none⟩) 16 16) (pmM p) from ⟨_, _, by rw [hln], by rw [hln]; exact Nat.le_refl _, fun _ => ⟨_, rfl, hs0, hrow.lt, hrow.mono hs0 (Nat.le_refl _)⟩⟩)
      clear hrow Hrow hln
      go_wp2_with fail
      go_ret
      exact ⟨_, rfl, HD.out, Hb.out⟩
set_option maxRecDepth 100000 in
set_option maxHeartbeats 800000 in
theorem ipmM (B : Nat) (v : Value) (p : List Int) (w : World) (hv : intE.Sl w B v p) (he : Ei p) (hm : p.length ≤ 1048576) :
    Calls Try.prog 34 #[v] w fun e w' => ∃ r, e = .returned r ∧ DSM w' w.heap.size w'.heap.size r (pmM p) ∧ Below w.heap.size w w' := by
  cases hP : permB p with
  | true =>
    have h4 := (permB_iff.1 hP).2
    rcases (show p.length = 1 ∨ p.length = 2 ∨ p.length = 3 ∨ p.length = 4 by omega) with e | e | e | e
    · exact ipm1 B v p w hv he hP e
    · exact ipm2 B v p w hv he hP e
    · exact ipm3 B v p w hv he hP e
    · exact ipm4 B v p w hv he hP e
  | false =>
    have H1 := Lib.hid (iisP B v p w hv he hm)
    rw [hP] at H1
    rw [show pmM p = [] from if_neg (by rw [hP]; decide)]
    clear he hP
    obtain ⟨a, cap, rfl, hcap, -⟩ := hv
    go_enter Try.func34, Try.ntmps34
    go_wp2_with fail
    refine (H1.out).mono ?_
    rintro e w1 ⟨rfl, hb1⟩
    have Hb1 := Lib.hid hb1
    clear hb1
    go_wp2_with fail
    go_ret
    exact ⟨_, rfl, DSM.nil, Hb1.out⟩
end Go.Proofs.Ytkcpemkahkkcmaa
namespace Go.Proofs.Ytkcpemkahkkcmaa
end Go.Proofs.Ytkcpemkahkkcmaa
