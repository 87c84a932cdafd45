/- The program's PermuteIndex. -/
import Derived.Test.YtkcpemkahkkcmaaBaseB26
import Derived.Test.YtkcpemkahkkcmaaPmT
import Derived.Test.YtkcpemkahkkcmaaBaseB07
namespace Go.Proofs.Ytkcpemkahkkcmaa
open Go.RowKit
theorem pix_neg {p : List Int} {i : Int} (h : permB p = false) : pix p i = 0 := by
  unfold pix pixB
  rw [h]
  rfl
attribute [local irreducible] World.cell?
set_option maxRecDepth 100000 in
set_option maxHeartbeats 3200000 in
theorem ipix1 (B : Nat) (v : Value) (p : List Int) (i : Int) (w : World) (hv : intE.Sl w B v p) (hep : Ei p) (hP : permB p = true) (hl : p.length = 1) (i0 : -9223372036854775808 ≤ i) (i1 : i ≤ 9223372036854775807) :
    Calls Try.prog 31 #[v, .int .i64 i] w fun e w' => e = .returned (.int .i64 (pix p i)) ∧ Below w.heap.size w w' := by
  have H1 := Lib.hid (iisP B v p w hv hep (by omega))
  rw [hP] at H1
  by_cases hi : 0 ≤ i ∧ i ≤ 1
  · obtain ⟨m, rfl⟩ : ∃ m : Nat, i = m := ⟨i.toNat, by omega⟩
    have hm : m < 2 := by omega
    have Hpix := Lib.hid (show pix p (m : Int) = ((pixS p m 1 : Nat) : Int) by have h := pix_yes (m := m) hP (by rw [hl]; omega); rwa [hl] at h)
    rw [Hpix.out]
    have Hp := Lib.hid (fun (j : Nat) (x : Int) (h : p[j]? = some x) => permB_at hP h)
    have Hlt := Lib.hid (fun j (hj : j ≤ 1) => pixS_lt hP m j (by omega))
    have Hst := Lib.hid (fun j => show pixS p m (j + 1) = pixS p m j ||| ((m >>> j &&& 1) <<< (p.getD j 0).toNat) from rfl)
    clear hep hP hi i0 i1 Hpix
    obtain ⟨a, cap, rfl, hcap, hr⟩ := hv
    rw [hl] at hcap hr H1 ⊢
    have Hr := Lib.hid hr
    have Hl := Lib.hid hl
    clear hr hl
    go_enter Try.func31, Try.ntmps31
    go_wp2_with fail
    refine (H1.out).mono ?_
    rintro e w1 ⟨rfl, hb1⟩
    have Hb1 := Lib.hid hb1
    clear hb1
    go_wp2_with fail
    go_loopg [5, 24] 1 (fun n out i wr => ∃ j : Nat, n = 1 - j ∧ j ≤ 1 ∧ i = .int .i64 j ∧ out = .int .i64 ((pixS p m j : Nat) : Int) ∧ Hid (Below w.heap.size w wr))
    case atStart => exact ⟨0, rfl, Nat.zero_le _, rfl, rfl, Hb1⟩
    case round =>
      obtain ⟨j, rfl, hj, rfl, rfl, Hb⟩ := hrel
      by_cases hlt : j < 1
      · obtain ⟨g, rfl, _, hrow⟩ := Hr.out (by omega)
        obtain ⟨x, hx⟩ : ∃ x, p[j]? = some x := ⟨p[j]'(by have := Hl.out; omega), List.getElem?_eq_getElem _⟩
        obtain ⟨x0, x1⟩ := Hp.out j x hx
        rw [Hl.out] at x1
        obtain ⟨k, rfl⟩ : ∃ k : Nat, x = k := ⟨x.toNat, by omega⟩
        have hk : k < 1 := by omega
        have r1 := hrow.below Hb.out hrow.lt
        have c0 := IRow.cell r1 hx
        have hgl := r1.lt
        have hgd : (p.getD j 0).toNat = k := by rw [List.getD_eq_getElem?_getD, hx]; rfl
        have Hs := Lib.hid (Hst.out j)
        rw [hgd] at Hs
        have hb := Hlt.out j hj
        generalize pixS p m j = o at *
        clear hx hrow r1 hgd
        have Hbit := Lib.hid (fun W => ibitOf m j W (by omega))
        go_wp2_with fail
        refine (Hbit.out _).mono ?_
        rintro e wx ⟨rfl, rfl⟩
        go_wp2_with fail
        go_roundg (1 - (j + 1))
        case measure => omega
        case rel => exact ⟨j + 1, rfl, by omega, by go_num, pix_step Hs.out hb (by omega) (by omega) (by omega), Hb⟩
      · obtain rfl : j = 1 := by omega
        go_wp2_with fail
        go_ret
        exact ⟨rfl, Hb.out⟩
  · rw [pix_no (by rw [hl]; simpa using hi)]
    clear hep hP
    obtain ⟨a, cap, rfl, hcap, -⟩ := hv
    rw [hl] at hcap H1 ⊢
    clear hl
    rcases (show i < 0 ∨ (¬ i < 0 ∧ 2 ≤ i) by omega) with h0 | ⟨h0, h1⟩
    · clear hi
      go_enter Try.func31, Try.ntmps31
      go_wp2_with fail
      refine (H1.out).mono ?_
      rintro e w1 ⟨rfl, hb1⟩
      have Hb1 := Lib.hid hb1
      clear hb1
      go_wp2_with fail
      go_ret
      exact ⟨rfl, Hb1.out⟩
    · clear hi
      go_enter Try.func31, Try.ntmps31
      go_wp2_with fail
      refine (H1.out).mono ?_
      rintro e w1 ⟨rfl, hb1⟩
      have Hb1 := Lib.hid hb1
      clear hb1
      go_wp2_with fail
      go_ret
      exact ⟨rfl, Hb1.out⟩
set_option maxRecDepth 100000 in
set_option maxHeartbeats 3200000 in
theorem ipix2 (B : Nat) (v : Value) (p : List Int) (i : Int) (w : World) (hv : intE.Sl w B v p) (hep : Ei p) (hP : permB p = true) (hl : p.length = 2) (i0 : -9223372036854775808 ≤ i) (i1 : i ≤ 9223372036854775807) :
    Calls Try.prog 31 #[v, .int .i64 i] w fun e w' => e = .returned (.int .i64 (pix p i)) ∧ Below w.heap.size w w' := by
  have H1 := Lib.hid (iisP B v p w hv hep (by omega))
  rw [hP] at H1
  by_cases hi : 0 ≤ i ∧ i ≤ 3
  · obtain ⟨m, rfl⟩ : ∃ m : Nat, i = m := ⟨i.toNat, by omega⟩
    have hm : m < 4 := by omega
    have Hpix := Lib.hid (show pix p (m : Int) = ((pixS p m 2 : Nat) : Int) by have h := pix_yes (m := m) hP (by rw [hl]; omega); rwa [hl] at h)
    rw [Hpix.out]
    have Hp := Lib.hid (fun (j : Nat) (x : Int) (h : p[j]? = some x) => permB_at hP h)
    have Hlt := Lib.hid (fun j (hj : j ≤ 2) => pixS_lt hP m j (by omega))
    have Hst := Lib.hid (fun j => show pixS p m (j + 1) = pixS p m j ||| ((m >>> j &&& 1) <<< (p.getD j 0).toNat) from rfl)
    clear hep hP hi i0 i1 Hpix
    obtain ⟨a, cap, rfl, hcap, hr⟩ := hv
    rw [hl] at hcap hr H1 ⊢
    have Hr := Lib.hid hr
    have Hl := Lib.hid hl
    clear hr hl
    go_enter Try.func31, Try.ntmps31
    go_wp2_with fail
    refine (H1.out).mono ?_
    rintro e w1 ⟨rfl, hb1⟩
    have Hb1 := Lib.hid hb1
    clear hb1
    go_wp2_with fail
    go_loopg [5, 24] 2 (fun n out i wr => ∃ j : Nat, n = 2 - j ∧ j ≤ 2 ∧ i = .int .i64 j ∧ out = .int .i64 ((pixS p m j : Nat) : Int) ∧ Hid (Below w.heap.size w wr))
    case atStart => exact ⟨0, rfl, Nat.zero_le _, rfl, rfl, Hb1⟩
    case round =>
      obtain ⟨j, rfl, hj, rfl, rfl, Hb⟩ := hrel
      by_cases hlt : j < 2
      · obtain ⟨g, rfl, _, hrow⟩ := Hr.out (by omega)
        obtain ⟨x, hx⟩ : ∃ x, p[j]? = some x := ⟨p[j]'(by have := Hl.out; omega), List.getElem?_eq_getElem _⟩
        obtain ⟨x0, x1⟩ := Hp.out j x hx
        rw [Hl.out] at x1
        obtain ⟨k, rfl⟩ : ∃ k : Nat, x = k := ⟨x.toNat, by omega⟩
        have hk : k < 2 := by omega
        have r1 := hrow.below Hb.out hrow.lt
        have c0 := IRow.cell r1 hx
        have hgl := r1.lt
        have hgd : (p.getD j 0).toNat = k := by rw [List.getD_eq_getElem?_getD, hx]; rfl
        have Hs := Lib.hid (Hst.out j)
        rw [hgd] at Hs
        have hb := Hlt.out j hj
        generalize pixS p m j = o at *
        clear hx hrow r1 hgd
        have Hbit := Lib.hid (fun W => ibitOf m j W (by omega))
        go_wp2_with fail
        refine (Hbit.out _).mono ?_
        rintro e wx ⟨rfl, rfl⟩
        go_wp2_with fail
        go_roundg (2 - (j + 1))
        case measure => omega
        case rel => exact ⟨j + 1, rfl, by omega, by go_num, pix_step Hs.out hb (by omega) (by omega) (by omega), Hb⟩
      · obtain rfl : j = 2 := by omega
        go_wp2_with fail
        go_ret
        exact ⟨rfl, Hb.out⟩
  · rw [pix_no (by rw [hl]; simpa using hi)]
    clear hep hP
    obtain ⟨a, cap, rfl, hcap, -⟩ := hv
    rw [hl] at hcap H1 ⊢
    clear hl
    rcases (show i < 0 ∨ (¬ i < 0 ∧ 4 ≤ i) by omega) with h0 | ⟨h0, h1⟩
    · clear hi
      go_enter Try.func31, Try.ntmps31
      go_wp2_with fail
      refine (H1.out).mono ?_
      rintro e w1 ⟨rfl, hb1⟩
      have Hb1 := Lib.hid hb1
      clear hb1
      go_wp2_with fail
      go_ret
      exact ⟨rfl, Hb1.out⟩
    · clear hi
      go_enter Try.func31, Try.ntmps31
      go_wp2_with fail
      refine (H1.out).mono ?_
      rintro e w1 ⟨rfl, hb1⟩
      have Hb1 := Lib.hid hb1
      clear hb1
      go_wp2_with fail
      go_ret
      exact ⟨rfl, Hb1.out⟩
set_option maxRecDepth 100000 in
set_option maxHeartbeats 3200000 in
theorem ipix3 (B : Nat) (v : Value) (p : List Int) (i : Int) (w : World) (hv : intE.Sl w B v p) (hep : Ei p) (hP : permB p = true) (hl : p.length = 3) (i0 : -9223372036854775808 ≤ i) (i1 : i ≤ 9223372036854775807) :
    Calls Try.prog 31 #[v, .int .i64 i] w fun e w' => e = .returned (.int .i64 (pix p i)) ∧ Below w.heap.size w w' := by
  have H1 := Lib.hid (iisP B v p w hv hep (by omega))
  rw [hP] at H1
  by_cases hi : 0 ≤ i ∧ i ≤ 7
  · obtain ⟨m, rfl⟩ : ∃ m : Nat, i = m := ⟨i.toNat, by omega⟩
    have hm : m < 8 := by omega
    have Hpix := Lib.hid (show pix p (m : Int) = ((pixS p m 3 : Nat) : Int) by have h := pix_yes (m := m) hP (by rw [hl]; omega); rwa [hl] at h)
    rw [Hpix.out]
    have Hp := Lib.hid (fun (j : Nat) (x : Int) (h : p[j]? = some x) => permB_at hP h)
    have Hlt := Lib.hid (fun j (hj : j ≤ 3) => pixS_lt hP m j (by omega))
    have Hst := Lib.hid (fun j => show pixS p m (j + 1) = pixS p m j ||| ((m >>> j &&& 1) <<< (p.getD j 0).toNat) from rfl)
    clear hep hP hi i0 i1 Hpix
    obtain ⟨a, cap, rfl, hcap, hr⟩ := hv
    rw [hl] at hcap hr H1 ⊢
    have Hr := Lib.hid hr
    have Hl := Lib.hid hl
    clear hr hl
    go_enter Try.func31, Try.ntmps31
    go_wp2_with fail
    refine (H1.out).mono ?_
    rintro e w1 ⟨rfl, hb1⟩
    have Hb1 := Lib.hid hb1
    clear hb1
    go_wp2_with fail
    go_loopg [5, 24] 3 (fun n out i wr => ∃ j : Nat, n = 3 - j ∧ j ≤ 3 ∧ i = .int .i64 j ∧ out = .int .i64 ((pixS p m j : Nat) : Int) ∧ Hid (Below w.heap.size w wr))
    case atStart => exact ⟨0, rfl, Nat.zero_le _, rfl, rfl, Hb1⟩
    case round =>
      obtain ⟨j, rfl, hj, rfl, rfl, Hb⟩ := hrel
      by_cases hlt : j < 3
      · obtain ⟨g, rfl, _, hrow⟩ := Hr.out (by omega)
        obtain ⟨x, hx⟩ : ∃ x, p[j]? = some x := ⟨p[j]'(by have := Hl.out; omega), List.getElem?_eq_getElem _⟩
        obtain ⟨x0, x1⟩ := Hp.out j x hx
        rw [Hl.out] at x1
        obtain ⟨k, rfl⟩ : ∃ k : Nat, x = k := ⟨x.toNat, by omega⟩
        have hk : k < 3 := by omega
        have r1 := hrow.below Hb.out hrow.lt
        have c0 := IRow.cell r1 hx
        have hgl := r1.lt
        have hgd : (p.getD j 0).toNat = k := by rw [List.getD_eq_getElem?_getD, hx]; rfl
        have Hs := Lib.hid (Hst.out j)
        rw [hgd] at Hs
        have hb := Hlt.out j hj
        generalize pixS p m j = o at *
        clear hx hrow r1 hgd
        have Hbit := Lib.hid (fun W => ibitOf m j W (by omega))
        go_wp2_with fail
        refine (Hbit.out _).mono ?_
        rintro e wx ⟨rfl, rfl⟩
        go_wp2_with fail
        go_roundg (3 - (j + 1))
        case measure => omega
        case rel => exact ⟨j + 1, rfl, by omega, by go_num, pix_step Hs.out hb (by omega) (by omega) (by omega), Hb⟩
      · obtain rfl : j = 3 := by omega
        go_wp2_with fail
        go_ret
        exact ⟨rfl, Hb.out⟩
  · rw [pix_no (by rw [hl]; simpa using hi)]
    clear hep hP
    obtain ⟨a, cap, rfl, hcap, -⟩ := hv
    rw [hl] at hcap H1 ⊢
    clear hl
    rcases (show i < 0 ∨ (¬ i < 0 ∧ 8 ≤ i) by omega) with h0 | ⟨h0, h1⟩
    · clear hi
      go_enter Try.func31, Try.ntmps31
      go_wp2_with fail
      refine (H1.out).mono ?_
      rintro e w1 ⟨rfl, hb1⟩
      have Hb1 := Lib.hid hb1
      clear hb1
      go_wp2_with fail
      go_ret
      exact ⟨rfl, Hb1.out⟩
    · clear hi
      go_enter Try.func31, Try.ntmps31
      go_wp2_with fail
      refine (H1.out).mono ?_
      rintro e w1 ⟨rfl, hb1⟩
      have Hb1 := Lib.hid hb1
      clear hb1
      go_wp2_with fail
      go_ret
      exact ⟨rfl, Hb1.out⟩
set_option maxRecDepth 100000 in
set_option maxHeartbeats 3200000 in
theorem ipix4 (B : Nat) (v : Value) (p : List Int) (i : Int) (w : World) (hv : intE.Sl w B v p) (hep : Ei p) (hP : permB p = true) (hl : p.length = 4) (i0 : -9223372036854775808 ≤ i) (i1 : i ≤ 9223372036854775807) :
    Calls Try.prog 31 #[v, .int .i64 i] w fun e w' => e = .returned (.int .i64 (pix p i)) ∧ Below w.heap.size w w' := by
  have H1 := Lib.hid (iisP B v p w hv hep (by omega))
  rw [hP] at H1
  by_cases hi : 0 ≤ i ∧ i ≤ 15
  · obtain ⟨m, rfl⟩ : ∃ m : Nat, i = m := ⟨i.toNat, by omega⟩
    have hm : m < 16 := by omega
    have Hpix := Lib.hid (show pix p (m : Int) = ((pixS p m 4 : Nat) : Int) by have h := pix_yes (m := m) hP (by rw [hl]; omega); rwa [hl] at h)
    rw [Hpix.out]
    have Hp := Lib.hid (fun (j : Nat) (x : Int) (h : p[j]? = some x) => permB_at hP h)
    have Hlt := Lib.hid (fun j (hj : j ≤ 4) => pixS_lt hP m j (by omega))
    have Hst := Lib.hid (fun j => show pixS p m (j + 1) = pixS p m j ||| ((m >>> j &&& 1) <<< (p.getD j 0).toNat) from rfl)
    clear hep hP hi i0 i1 Hpix
    obtain ⟨a, cap, rfl, hcap, hr⟩ := hv
    rw [hl] at hcap hr H1 ⊢
    have Hr := Lib.hid hr
    have Hl := Lib.hid hl
    clear hr hl
    go_enter Try.func31, Try.ntmps31
    go_wp2_with fail
    refine (H1.out).mono ?_
    rintro e w1 ⟨rfl, hb1⟩
    have Hb1 := Lib.hid hb1
    clear hb1
    go_wp2_with fail
    go_loopg [5, 24] 4 (fun n out i wr => ∃ j : Nat, n = 4 - j ∧ j ≤ 4 ∧ i = .int .i64 j ∧ out = .int .i64 ((pixS p m j : Nat) : Int) ∧ Hid (Below w.heap.size w wr))
    case atStart => exact ⟨0, rfl, Nat.zero_le _, rfl, rfl, Hb1⟩
    case round =>
      obtain ⟨j, rfl, hj, rfl, rfl, Hb⟩ := hrel
      by_cases hlt : j < 4
      · obtain ⟨g, rfl, _, hrow⟩ := Hr.out (by omega)
        obtain ⟨x, hx⟩ : ∃ x, p[j]? = some x := ⟨p[j]'(by have := Hl.out; omega), List.getElem?_eq_getElem _⟩
        obtain ⟨x0, x1⟩ := Hp.out j x hx
        rw [Hl.out] at x1
        obtain ⟨k, rfl⟩ : ∃ k : Nat, x = k := ⟨x.toNat, by omega⟩
        have hk : k < 4 := by omega
        have r1 := hrow.below Hb.out hrow.lt
        have c0 := IRow.cell r1 hx
        have hgl := r1.lt
        have hgd : (p.getD j 0).toNat = k := by rw [List.getD_eq_getElem?_getD, hx]; rfl
        have Hs := Lib.hid (Hst.out j)
        rw [hgd] at Hs
        have hb := Hlt.out j hj
        generalize pixS p m j = o at *
        clear hx hrow r1 hgd
        have Hbit := Lib.hid (fun W => ibitOf m j W (by omega))
        go_wp2_with fail
        refine (Hbit.out _).mono ?_
        rintro e wx ⟨rfl, rfl⟩
        go_wp2_with fail
        go_roundg (4 - (j + 1))
        case measure => omega
        case rel => exact ⟨j + 1, rfl, by omega, by go_num, pix_step Hs.out hb (by omega) (by omega) (by omega), Hb⟩
      · obtain rfl : j = 4 := by omega
        go_wp2_with fail
        go_ret
        exact ⟨rfl, Hb.out⟩
  · rw [pix_no (by rw [hl]; simpa using hi)]
    clear hep hP
    obtain ⟨a, cap, rfl, hcap, -⟩ := hv
    rw [hl] at hcap H1 ⊢
    clear hl
    rcases (show i < 0 ∨ (¬ i < 0 ∧ 16 ≤ i) by omega) with h0 | ⟨h0, h1⟩
    · clear hi
      go_enter Try.func31, Try.ntmps31
      go_wp2_with fail
      refine (H1.out).mono ?_
      rintro e w1 ⟨rfl, hb1⟩
      have Hb1 := Lib.hid hb1
      clear hb1
      go_wp2_with fail
      go_ret
      exact ⟨rfl, Hb1.out⟩
    · clear hi
      go_enter Try.func31, Try.ntmps31
      go_wp2_with fail
      refine (H1.out).mono ?_
      rintro e w1 ⟨rfl, hb1⟩
      have Hb1 := Lib.hid hb1
      clear hb1
      go_wp2_with fail
      go_ret
      exact ⟨rfl, Hb1.out⟩
set_option maxRecDepth 100000 in
set_option maxHeartbeats 800000 in
theorem ipix (B : Nat) (v : Value) (p : List Int) (i : Int) (w : World) (hv : intE.Sl w B v p) (he : Ei p) (hm : p.length ≤ 1048576) (h0 : -9223372036854775808 ≤ i) (h1 : i ≤ 9223372036854775807) :
    Calls Try.prog 31 #[v, .int .i64 i] w fun e w' => e = .returned (.int .i64 (pix p i)) ∧ Below w.heap.size w w' := by
  cases hP : permB p with
  | true =>
    have h4 := (permB_iff.1 hP).2
    rcases (show p.length = 1 ∨ p.length = 2 ∨ p.length = 3 ∨ p.length = 4 by omega) with e | e | e | e
    · exact ipix1 B v p i w hv he hP e h0 h1
    · exact ipix2 B v p i w hv he hP e h0 h1
    · exact ipix3 B v p i w hv he hP e h0 h1
    · exact ipix4 B v p i w hv he hP e h0 h1
  | false =>
    have H1 := Lib.hid (iisP B v p w hv he hm)
    rw [hP] at H1
    rw [pix_neg hP]
    clear he hP
    obtain ⟨a, cap, rfl, hcap, -⟩ := hv
    go_enter Try.func31, Try.ntmps31
    go_wp2_with fail
    refine (H1.out).mono ?_
    rintro e w1 ⟨rfl, hb1⟩
    have Hb1 := Lib.hid hb1
    clear hb1
    go_wp2_with fail
    go_ret
    exact ⟨rfl, Hb1.out⟩
end Go.Proofs.Ytkcpemkahkkcmaa
