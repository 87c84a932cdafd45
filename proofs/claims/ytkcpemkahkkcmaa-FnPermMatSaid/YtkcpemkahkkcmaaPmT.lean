/- The model's PermuteIndex and PermutationMatrix. -/
import Derived.Test.YtkcpemkahkkcmaaPmS
import Derived.Test.YtkcpemkahkkcmaaBaseB10
import Derived.Test.YtkcpemkahkkcmaaBaseB11
namespace Go.Proofs.Ytkcpemkahkkcmaa
open Go.RowKit
theorem pixS_lt {p : List Int} (h : permB p = true) (i : Nat) : ∀ j, j ≤ p.length → pixS p i j < 16
  | 0, _ => by show 0 < 16; decide
  | j + 1, hj => by
    have h1 := pixS_lt h i j (by omega)
    rw [pixS]
    have hx : (p.getD j 0).toNat < 4 := by
      have hl := (permB_iff.1 h).2.2
      have h2 := permB_at h (i := j) (x := p[j]'(by omega)) (List.getElem?_eq_getElem _)
      rw [List.getD_eq_getElem?_getD, List.getElem?_eq_getElem (by omega)]
      simp only [Option.getD_some]
      omega
    have h3 : (i >>> j &&& 1) <<< (p.getD j 0).toNat < 2 ^ 4 := by
      have h4 : i >>> j &&& 1 ≤ 1 := Nat.and_le_right
      rw [Nat.shiftLeft_eq]
      have h5 : 2 ^ (p.getD j 0).toNat ≤ 2 ^ 3 := Nat.pow_le_pow_right (by decide) (by omega)
      have h6 := Nat.mul_le_mul h4 h5
      omega
    exact Nat.or_lt_two_pow (n := 4) h1 h3
theorem pix_no {p : List Int} {i : Int} (h : ¬ (0 ≤ i ∧ i ≤ 2 ^ p.length - 1)) : pix p i = 0 := by
  unfold pix pixB
  rw [decide_eq_false h, Bool.and_false]
  rfl
theorem pix_yes {p : List Int} {m : Nat} (hP : permB p = true) (h : (m : Int) ≤ 2 ^ p.length - 1) : pix p (m : Int) = ((pixS p m p.length : Nat) : Int) := by
  unfold pix pixB
  rw [hP, decide_eq_true ⟨by omega, h⟩]
  rfl
theorem pix_rg {p : List Int} (i : Int) : 0 ≤ pix p i ∧ pix p i < 16 := by
  unfold pix pixB
  split
  · rename_i h
    rw [Bool.and_eq_true] at h
    have := pixS_lt h.1 i.toNat p.length (Nat.le_refl _)
    omega
  · omega
theorem pix_key : ∀ o, o < 16 → ∀ m, m < 16 → ∀ j, j < 4 → ∀ k, k < 4 → bits .or .i64 ((o : Nat) : Int) (wrap64 (bits .and .i64 (((m : Nat) : Int) / 2 ^ j) 1 * 2 ^ k)) = ((o ||| ((m >>> j &&& 1) <<< k) : Nat) : Int) := by decide +kernel
theorem pix_step {o q m j k : Nat} (h : q = o ||| ((m >>> j &&& 1) <<< k)) (ho : o < 16) (hm : m < 16) (hj : j < 4) (hk : k < 4) : Value.int .i64 (bits .or .i64 (o : Int) (wrap64 (bits .and .i64 ((m : Int) / 2 ^ j) 1 * 2 ^ k))) = Value.int .i64 (q : Int) := by
  rw [h, pix_key o ho m hm j hj k hk]
attribute [local irreducible] World.cell?
set_option maxRecDepth 100000 in
set_option maxHeartbeats 3200000 in
theorem spix1 (B : Nat) (v : Value) (p : List Int) (i : Int) (w : World) (hv : intE.Sl w B v p) (hep : Ei p) (hP : permB p = true) (hl : p.length = 1) (i0 : -9223372036854775808 ≤ i) (i1 : i ≤ 9223372036854775807) :
    Calls Try.prog 32 #[v, .int .i64 i] w fun e w' => e = .returned (.int .i64 (pix p i)) ∧ Below w.heap.size w w' := by
  have H1 := Lib.hid (sisP B v p w hv hep (by omega))
  rw [hP] at H1
  by_cases hi : 0 ≤ i ∧ i ≤ 1
  · obtain ⟨m, rfl⟩ : ∃ m : Nat, i = m := ⟨i.toNat, by omega⟩
    have hm : m < 2 := by omega
    have Hpix := Lib.hid (show pix p (m : Int) = ((pixS p m 1 : Nat) : Int) by have h := pix_yes (m := m) hP (by rw [hl]; omega); rwa [hl] at h)
    rw [Hpix.out]
    have H2 := Lib.hid (fun w => lin_any (m : Int) 0 1 true w (decide_eq_true hi))
    have Hp := Lib.hid (fun (j : Nat) (x : Int) (h : p[j]? = some x) => permB_at hP h)
    have Hlt := Lib.hid (fun j (hj : j ≤ 1) => pixS_lt hP m j (by omega))
    have Hst := Lib.hid (fun j => show pixS p m (j + 1) = pixS p m j ||| ((m >>> j &&& 1) <<< (p.getD j 0).toNat) from rfl)
    clear hep hP hi i0 i1 Hpix
    obtain ⟨a, cap, rfl, hcap, hr⟩ := hv
    rw [hl] at hcap hr H1 ⊢
    have Hr := Lib.hid hr
    have Hl := Lib.hid hl
    clear hr hl
    go_enter Try.func32, Try.ntmps32
    go_wp2_with fail
    refine (H1.out).mono ?_
    rintro e w1 ⟨rfl, hb1⟩
    have Hb1 := Lib.hid hb1
    clear hb1
    go_wp2_with fail
    refine (H2.out _).mono ?_
    rintro e w2 ⟨rfl, rfl⟩
    go_wp2_with fail
    go_loopg [5, 6] 1 (fun n out i wr => ∃ j : Nat, n = 1 - j ∧ j ≤ 1 ∧ i = .int .i64 j ∧ out = .int .i64 ((pixS p m j : Nat) : Int) ∧ Hid (Below w.heap.size w wr))
    case atStart => exact ⟨0, rfl, Nat.zero_le _, rfl, rfl, Hb1⟩
    case round =>
      obtain ⟨j, rfl, hj, rfl, rfl, Hb⟩ := hrel
      by_cases hlt : j < 1
      · obtain ⟨g, rfl, _, hrow⟩ := Hr.out (by omega)
        obtain ⟨x, hx⟩ : ∃ x, p[j]? = some x := ⟨p[j]'(by have := Hl.out; omega), List.getElem?_eq_getElem _⟩
        obtain ⟨x0, x1⟩ := Hp.out j x hx
        rw [Hl.out] at x1
        obtain ⟨k, rfl⟩ : ∃ k : Nat, x = k := ⟨x.toNat, by omega⟩
        have hk : k < 1 := by omega
        have r1 := hrow.below Hb.out hrow.lt
        have c0 := IRow.cell r1 hx
        have hgl := r1.lt
        have hgd : (p.getD j 0).toNat = k := by rw [List.getD_eq_getElem?_getD, hx]; rfl
        have Hs := Lib.hid (Hst.out j)
        rw [hgd] at Hs
        have hb := Hlt.out j hj
        generalize pixS p m j = o at *
        clear hx hrow r1 hgd
        go_wp2_with fail
        go_roundg (1 - (j + 1))
        case measure => omega
        case rel => exact ⟨j + 1, rfl, by omega, by go_num, pix_step Hs.out hb (by omega) (by omega) (by omega), Hb⟩
      · obtain rfl : j = 1 := by omega
        go_wp2_with fail
        go_ret
        exact ⟨rfl, Hb.out⟩
  · have H2 := Lib.hid (fun w => lin_any i 0 1 false w (decide_eq_false hi))
    rw [pix_no (by rw [hl]; simpa using hi)]
    clear hep hP hi i0 i1
    obtain ⟨a, cap, rfl, hcap, -⟩ := hv
    rw [hl] at hcap H1 ⊢
    clear hl
    go_enter Try.func32, Try.ntmps32
    go_wp2_with fail
    refine (H1.out).mono ?_
    rintro e w1 ⟨rfl, hb1⟩
    have Hb1 := Lib.hid hb1
    clear hb1
    go_wp2_with fail
    refine (H2.out _).mono ?_
    rintro e w2 ⟨rfl, rfl⟩
    go_wp2_with fail
    go_ret
    exact ⟨rfl, Hb1.out⟩
set_option maxRecDepth 100000 in
set_option maxHeartbeats 3200000 in
theorem spix2 (B : Nat) (v : Value) (p : List Int) (i : Int) (w : World) (hv : intE.Sl w B v p) (hep : Ei p) (hP : permB p = true) (hl : p.length = 2) (i0 : -9223372036854775808 ≤ i) (i1 : i ≤ 9223372036854775807) :
    Calls Try.prog 32 #[v, .int .i64 i] w fun e w' => e = .returned (.int .i64 (pix p i)) ∧ Below w.heap.size w w' := by
  have H1 := Lib.hid (sisP B v p w hv hep (by omega))
  rw [hP] at H1
  by_cases hi : 0 ≤ i ∧ i ≤ 3
  · obtain ⟨m, rfl⟩ : ∃ m : Nat, i = m := ⟨i.toNat, by omega⟩
    have hm : m < 4 := by omega
    have Hpix := Lib.hid (show pix p (m : Int) = ((pixS p m 2 : Nat) : Int) by have h := pix_yes (m := m) hP (by rw [hl]; omega); rwa [hl] at h)
    rw [Hpix.out]
    have H2 := Lib.hid (fun w => lin_any (m : Int) 0 3 true w (decide_eq_true hi))
    have Hp := Lib.hid (fun (j : Nat) (x : Int) (h : p[j]? = some x) => permB_at hP h)
    have Hlt := Lib.hid (fun j (hj : j ≤ 2) => pixS_lt hP m j (by omega))
    have Hst := Lib.hid (fun j => show pixS p m (j + 1) = pixS p m j ||| ((m >>> j &&& 1) <<< (p.getD j 0).toNat) from rfl)
    clear hep hP hi i0 i1 Hpix
    obtain ⟨a, cap, rfl, hcap, hr⟩ := hv
    rw [hl] at hcap hr H1 ⊢
    have Hr := Lib.hid hr
    have Hl := Lib.hid hl
    clear hr hl
    go_enter Try.func32, Try.ntmps32
    go_wp2_with fail
    refine (H1.out).mono ?_
    rintro e w1 ⟨rfl, hb1⟩
    have Hb1 := Lib.hid hb1
    clear hb1
    go_wp2_with fail
    refine (H2.out _).mono ?_
    rintro e w2 ⟨rfl, rfl⟩
    go_wp2_with fail
    go_loopg [5, 6] 2 (fun n out i wr => ∃ j : Nat, n = 2 - j ∧ j ≤ 2 ∧ i = .int .i64 j ∧ out = .int .i64 ((pixS p m j : Nat) : Int) ∧ Hid (Below w.heap.size w wr))
    case atStart => exact ⟨0, rfl, Nat.zero_le _, rfl, rfl, Hb1⟩
    case round =>
      obtain ⟨j, rfl, hj, rfl, rfl, Hb⟩ := hrel
      by_cases hlt : j < 2
      · obtain ⟨g, rfl, _, hrow⟩ := Hr.out (by omega)
        obtain ⟨x, hx⟩ : ∃ x, p[j]? = some x := ⟨p[j]'(by have := Hl.out; omega), List.getElem?_eq_getElem _⟩
        obtain ⟨x0, x1⟩ := Hp.out j x hx
        rw [Hl.out] at x1
        obtain ⟨k, rfl⟩ : ∃ k : Nat, x = k := ⟨x.toNat, by omega⟩
        have hk : k < 2 := by omega
        have r1 := hrow.below Hb.out hrow.lt
        have c0 := IRow.cell r1 hx
        have hgl := r1.lt
        have hgd : (p.getD j 0).toNat = k := by rw [List.getD_eq_getElem?_getD, hx]; rfl
        have Hs := Lib.hid (Hst.out j)
        rw [hgd] at Hs
        have hb := Hlt.out j hj
        generalize pixS p m j = o at *
        clear hx hrow r1 hgd
        go_wp2_with fail
        go_roundg (2 - (j + 1))
        case measure => omega
        case rel => exact ⟨j + 1, rfl, by omega, by go_num, pix_step Hs.out hb (by omega) (by omega) (by omega), Hb⟩
      · obtain rfl : j = 2 := by omega
        go_wp2_with fail
        go_ret
        exact ⟨rfl, Hb.out⟩
  · have H2 := Lib.hid (fun w => lin_any i 0 3 false w (decide_eq_false hi))
    rw [pix_no (by rw [hl]; simpa using hi)]
    clear hep hP hi i0 i1
    obtain ⟨a, cap, rfl, hcap, -⟩ := hv
    rw [hl] at hcap H1 ⊢
    clear hl
    go_enter Try.func32, Try.ntmps32
    go_wp2_with fail
    refine (H1.out).mono ?_
    rintro e w1 ⟨rfl, hb1⟩
    have Hb1 := Lib.hid hb1
    clear hb1
    go_wp2_with fail
    refine (H2.out _).mono ?_
    rintro e w2 ⟨rfl, rfl⟩
    go_wp2_with fail
    go_ret
    exact ⟨rfl, Hb1.out⟩
set_option maxRecDepth 100000 in
set_option maxHeartbeats 3200000 in
theorem spix3 (B : Nat) (v : Value) (p : List Int) (i : Int) (w : World) (hv : intE.Sl w B v p) (hep : Ei p) (hP : permB p = true) (hl : p.length = 3) (i0 : -9223372036854775808 ≤ i) (i1 : i ≤ 9223372036854775807) :
    Calls Try.prog 32 #[v, .int .i64 i] w fun e w' => e = .returned (.int .i64 (pix p i)) ∧ Below w.heap.size w w' := by
  have H1 := Lib.hid (sisP B v p w hv hep (by omega))
  rw [hP] at H1
  by_cases hi : 0 ≤ i ∧ i ≤ 7
  · obtain ⟨m, rfl⟩ : ∃ m : Nat, i = m := ⟨i.toNat, by omega⟩
    have hm : m < 8 := by omega
    have Hpix := Lib.hid (show pix p (m : Int) = ((pixS p m 3 : Nat) : Int) by have h := pix_yes (m := m) hP (by rw [hl]; omega); rwa [hl] at h)
    rw [Hpix.out]
    have H2 := Lib.hid (fun w => lin_any (m : Int) 0 7 true w (decide_eq_true hi))
    have Hp := Lib.hid (fun (j : Nat) (x : Int) (h : p[j]? = some x) => permB_at hP h)
    have Hlt := Lib.hid (fun j (hj : j ≤ 3) => pixS_lt hP m j (by omega))
    have Hst := Lib.hid (fun j => show pixS p m (j + 1) = pixS p m j ||| ((m >>> j &&& 1) <<< (p.getD j 0).toNat) from rfl)
    clear hep hP hi i0 i1 Hpix
    obtain ⟨a, cap, rfl, hcap, hr⟩ := hv
    rw [hl] at hcap hr H1 ⊢
    have Hr := Lib.hid hr
    have Hl := Lib.hid hl
    clear hr hl
    go_enter Try.func32, Try.ntmps32
    go_wp2_with fail
    refine (H1.out).mono ?_
    rintro e w1 ⟨rfl, hb1⟩
    have Hb1 := Lib.hid hb1
    clear hb1
    go_wp2_with fail
    refine (H2.out _).mono ?_
    rintro e w2 ⟨rfl, rfl⟩
    go_wp2_with fail
    go_loopg [5, 6] 3 (fun n out i wr => ∃ j : Nat, n = 3 - j ∧ j ≤ 3 ∧ i = .int .i64 j ∧ out = .int .i64 ((pixS p m j : Nat) : Int) ∧ Hid (Below w.heap.size w wr))
    case atStart => exact ⟨0, rfl, Nat.zero_le _, rfl, rfl, Hb1⟩
    case round =>
      obtain ⟨j, rfl, hj, rfl, rfl, Hb⟩ := hrel
      by_cases hlt : j < 3
      · obtain ⟨g, rfl, _, hrow⟩ := Hr.out (by omega)
        obtain ⟨x, hx⟩ : ∃ x, p[j]? = some x := ⟨p[j]'(by have := Hl.out; omega), List.getElem?_eq_getElem _⟩
        obtain ⟨x0, x1⟩ := Hp.out j x hx
        rw [Hl.out] at x1
        obtain ⟨k, rfl⟩ : ∃ k : Nat, x = k := ⟨x.toNat, by omega⟩
        have hk : k < 3 := by omega
        have r1 := hrow.below Hb.out hrow.lt
        have c0 := IRow.cell r1 hx
        have hgl := r1.lt
        have hgd : (p.getD j 0).toNat = k := by rw [List.getD_eq_getElem?_getD, hx]; rfl
        have Hs := Lib.hid (Hst.out j)
        rw [hgd] at Hs
        have hb := Hlt.out j hj
        generalize pixS p m j = o at *
        clear hx hrow r1 hgd
        go_wp2_with fail
        go_roundg (3 - (j + 1))
        case measure => omega
        case rel => exact ⟨j + 1, rfl, by omega, by go_num, pix_step Hs.out hb (by omega) (by omega) (by omega), Hb⟩
      · obtain rfl : j = 3 := by omega
        go_wp2_with fail
        go_ret
        exact ⟨rfl, Hb.out⟩
  · have H2 := Lib.hid (fun w => lin_any i 0 7 false w (decide_eq_false hi))
    rw [pix_no (by rw [hl]; simpa using hi)]
    clear hep hP hi i0 i1
    obtain ⟨a, cap, rfl, hcap, -⟩ := hv
    rw [hl] at hcap H1 ⊢
    clear hl
    go_enter Try.func32, Try.ntmps32
    go_wp2_with fail
    refine (H1.out).mono ?_
    rintro e w1 ⟨rfl, hb1⟩
    have Hb1 := Lib.hid hb1
    clear hb1
    go_wp2_with fail
    refine (H2.out _).mono ?_
    rintro e w2 ⟨rfl, rfl⟩
    go_wp2_with fail
    go_ret
    exact ⟨rfl, Hb1.out⟩
set_option maxRecDepth 100000 in
set_option maxHeartbeats 3200000 in
theorem spix4 (B : Nat) (v : Value) (p : List Int) (i : Int) (w : World) (hv : intE.Sl w B v p) (hep : Ei p) (hP : permB p = true) (hl : p.length = 4) (i0 : -9223372036854775808 ≤ i) (i1 : i ≤ 9223372036854775807) :
    Calls Try.prog 32 #[v, .int .i64 i] w fun e w' => e = .returned (.int .i64 (pix p i)) ∧ Below w.heap.size w w' := by
  have H1 := Lib.hid (sisP B v p w hv hep (by omega))
  rw [hP] at H1
  by_cases hi : 0 ≤ i ∧ i ≤ 15
  · obtain ⟨m, rfl⟩ : ∃ m : Nat, i = m := ⟨i.toNat, by omega⟩
    have hm : m < 16 := by omega
    have Hpix := Lib.hid (show pix p (m : Int) = ((pixS p m 4 : Nat) : Int) by have h := pix_yes (m := m) hP (by rw [hl]; omega); rwa [hl] at h)
    rw [Hpix.out]
    have H2 := Lib.hid (fun w => lin_any (m : Int) 0 15 true w (decide_eq_true hi))
    have Hp := Lib.hid (fun (j : Nat) (x : Int) (h : p[j]? = some x) => permB_at hP h)
    have Hlt := Lib.hid (fun j (hj : j ≤ 4) => pixS_lt hP m j (by omega))
    have Hst := Lib.hid (fun j => show pixS p m (j + 1) = pixS p m j ||| ((m >>> j &&& 1) <<< (p.getD j 0).toNat) from rfl)
    clear hep hP hi i0 i1 Hpix
    obtain ⟨a, cap, rfl, hcap, hr⟩ := hv
    rw [hl] at hcap hr H1 ⊢
    have Hr := Lib.hid hr
    have Hl := Lib.hid hl
    clear hr hl
    go_enter Try.func32, Try.ntmps32
    go_wp2_with fail
    refine (H1.out).mono ?_
    rintro e w1 ⟨rfl, hb1⟩
    have Hb1 := Lib.hid hb1
    clear hb1
    go_wp2_with fail
    refine (H2.out _).mono ?_
    rintro e w2 ⟨rfl, rfl⟩
    go_wp2_with fail
    go_loopg [5, 6] 4 (fun n out i wr => ∃ j : Nat, n = 4 - j ∧ j ≤ 4 ∧ i = .int .i64 j ∧ out = .int .i64 ((pixS p m j : Nat) : Int) ∧ Hid (Below w.heap.size w wr))
    case atStart => exact ⟨0, rfl, Nat.zero_le _, rfl, rfl, Hb1⟩
    case round =>
      obtain ⟨j, rfl, hj, rfl, rfl, Hb⟩ := hrel
      by_cases hlt : j < 4
      · obtain ⟨g, rfl, _, hrow⟩ := Hr.out (by omega)
        obtain ⟨x, hx⟩ : ∃ x, p[j]? = some x := ⟨p[j]'(by have := Hl.out; omega), List.getElem?_eq_getElem _⟩
        obtain ⟨x0, x1⟩ := Hp.out j x hx
        rw [Hl.out] at x1
        obtain ⟨k, rfl⟩ : ∃ k : Nat, x = k := ⟨x.toNat, by omega⟩
        have hk : k < 4 := by omega
        have r1 := hrow.below Hb.out hrow.lt
        have c0 := IRow.cell r1 hx
        have hgl := r1.lt
        have hgd : (p.getD j 0).toNat = k := by rw [List.getD_eq_getElem?_getD, hx]; rfl
        have Hs := Lib.hid (Hst.out j)
        rw [hgd] at Hs
        have hb := Hlt.out j hj
        generalize pixS p m j = o at *
        clear hx hrow r1 hgd
        go_wp2_with fail
        go_roundg (4 - (j + 1))
        case measure => omega
        case rel => exact ⟨j + 1, rfl, by omega, by go_num, pix_step Hs.out hb (by omega) (by omega) (by omega), Hb⟩
      · obtain rfl : j = 4 := by omega
        go_wp2_with fail
        go_ret
        exact ⟨rfl, Hb.out⟩
  · have H2 := Lib.hid (fun w => lin_any i 0 15 false w (decide_eq_false hi))
    rw [pix_no (by rw [hl]; simpa using hi)]
    clear hep hP hi i0 i1
    obtain ⟨a, cap, rfl, hcap, -⟩ := hv
    rw [hl] at hcap H1 ⊢
    clear hl
    go_enter Try.func32, Try.ntmps32
    go_wp2_with fail
    refine (H1.out).mono ?_
    rintro e w1 ⟨rfl, hb1⟩
    have Hb1 := Lib.hid hb1
    clear hb1
    go_wp2_with fail
    refine (H2.out _).mono ?_
    rintro e w2 ⟨rfl, rfl⟩
    go_wp2_with fail
    go_ret
    exact ⟨rfl, Hb1.out⟩
set_option maxRecDepth 100000 in
set_option maxHeartbeats 1600000 in
theorem spix (B : Nat) (v : Value) (p : List Int) (i : Int) (w : World) (hv : intE.Sl w B v p) (hep : Ei p) (hm : p.length ≤ 1048576) (i0 : -9223372036854775808 ≤ i) (i1 : i ≤ 9223372036854775807) :
    Calls Try.prog 32 #[v, .int .i64 i] w fun e w' => e = .returned (.int .i64 (pix p i)) ∧ Below w.heap.size w w' := by
  cases hP : permB p with
  | false =>
    have H1 := Lib.hid (sisP B v p w hv hep hm)
    rw [hP] at H1
    rw [show pix p i = 0 from by unfold pix pixB; rw [hP]; rfl]
    clear hep hP
    obtain ⟨a, cap, rfl, hcap, -⟩ := hv
    go_enter Try.func32, Try.ntmps32
    go_wp2_with fail
    refine (H1.out).mono ?_
    rintro e w1 ⟨rfl, hb1⟩
    have Hb1 := Lib.hid hb1
    clear hb1
    go_wp2_with fail
    go_ret
    exact ⟨rfl, Hb1.out⟩
  | true =>
    have h4 := (permB_iff.1 hP).2
    rcases (show p.length = 1 ∨ p.length = 2 ∨ p.length = 3 ∨ p.length = 4 by omega) with e | e | e | e
    · exact spix1 B v p i w hv hep hP e i0 i1
    · exact spix2 B v p i w hv hep hP e i0 i1
    · exact spix3 B v p i w hv hep hP e i0 i1
    · exact spix4 B v p i w hv hep hP e i0 i1
end Go.Proofs.Ytkcpemkahkkcmaa
