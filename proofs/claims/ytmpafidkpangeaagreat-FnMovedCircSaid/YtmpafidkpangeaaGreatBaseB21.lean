/- BaseB21: several of our texts in one: MtU PmL PmS PmT PmKp. -/
import Derived.Test.YtmpafidkpangeaaGreatBaseB04
import Derived.Test.YtmpafidkpangeaaGreatBaseB12
import Derived.Test.YtmpafidkpangeaaGreatBaseB11
import Derived.Test.YtmpafidkpangeaaGreatBaseB20
import Derived.Test.YtmpafidkpangeaaGreatGtB
import Derived.Test.YtmpafidkpangeaaGreatBaseB08
namespace Go.Proofs.YtmpafidkpangeaaGreat
open Go.RowKit
theorem amps_rect {n : Nat} : ∀ {M : List (List Dw)}, (∀ r ∈ M, r.length = n) → amps M = M.length * n
  | [], _ => by simp [amps]
  | r :: M, h => by
    have h1 := amps_rect (M := M) fun s hs => h s (List.mem_cons_of_mem _ hs)
    have h2 := h r (List.mem_cons_self ..)
    unfold amps at *
    rw [List.map_cons, List.sum_cons, h1, h2, List.length_cons, Nat.succ_mul]
    omega
theorem small_amps {n k : Nat} {M : List (List Dw)} (h : ∀ r ∈ M, r.length = n) (hl : M.length = k) (hk : k ≤ 16) (hn : n ≤ 16) : amps M ≤ 256 := by
  rw [amps_rect h, hl]
  exact Nat.mul_le_mul hk hn
theorem mulM_amps (A B : List (List Dw)) : (mulM A B).length ≤ 16 ∧ amps (mulM A B) ≤ 256 := by
  cases h : mulMB A B with
  | false => rw [show mulM A B = [] from if_neg (by rw [h]; decide)]; exact ⟨by decide, by decide⟩
  | true =>
    have hB : mtB B = true := by
      unfold mulMB at h
      simp only [Bool.and_eq_true] at h
      exact h.1.1.2
    have h16 := mtB_len hB
    have hl : (mulM A B).length = B.length := by rw [show mulM A B = colsM (mulML A B) from if_pos h, colsM_len, mulML_len]
    refine ⟨by omega, small_amps (n := B.length) (fun r hr => ?_) hl h16 h16⟩
    rw [show mulM A B = colsM (mulML A B) from if_pos h] at hr
    obtain ⟨i, _, rfl⟩ := List.mem_map.1 hr
    rw [col_len, mulML_len]
theorem basisL_len (n i : Int) : (basisL n i).length ≤ 16 := by
  unfold basisL
  split
  · rename_i h
    rw [List.length_set, List.length_replicate]
    rcases (show n = 1 ∨ n = 2 ∨ n = 3 ∨ n = 4 by omega) with rfl | rfl | rfl | rfl <;> decide
  · exact Nat.zero_le _
theorem amps_le16 : ∀ {M : List (List Dw)}, (∀ r ∈ M, r.length ≤ 16) → amps M ≤ M.length * 16
  | [], _ => by simp [amps]
  | r :: M, h => by
    have h1 := amps_le16 (M := M) fun s hs => h s (List.mem_cons_of_mem _ hs)
    have h2 := h r (List.mem_cons_self ..)
    unfold amps at *
    rw [List.map_cons, List.sum_cons, List.length_cons, Nat.succ_mul]
    omega
theorem idM_amps (n : Int) : (idM n).length ≤ 16 ∧ amps (idM n) ≤ 256 := by
  by_cases h : 1 ≤ n ∧ n ≤ 4
  · have hl := idM_len h
    have h16 : 2 ^ n.toNat ≤ 16 := by rcases (show n = 1 ∨ n = 2 ∨ n = 3 ∨ n = 4 by omega) with rfl | rfl | rfl | rfl <;> decide
    have h2 := amps_le16 (M := idM n) fun r hr => by
      rw [idM_yes h] at hr
      obtain ⟨i, _, rfl⟩ := List.mem_map.1 hr
      exact basisL_len n _
    exact ⟨by omega, by omega⟩
  · rw [idM_no h]; exact ⟨by decide, by decide⟩
attribute [local irreducible] World.cell?
end Go.Proofs.YtmpafidkpangeaaGreat
namespace Go.Proofs.YtmpafidkpangeaaGreat
theorem pmM_amps (p : List Int) : (pmM p).length ≤ 16 ∧ amps (pmM p) ≤ 256 := by
  unfold pmM
  split
  · rename_i h
    have hl := (permB_iff.1 h).2
    have h16 : 2 ^ p.length ≤ 16 := by rcases (show p.length = 1 ∨ p.length = 2 ∨ p.length = 3 ∨ p.length = 4 by omega) with e | e | e | e <;> rw [e] <;> decide
    have hL : (pmL p).length = 2 ^ p.length := by rw [pmL, List.length_map, List.length_range]
    have hc : (colsM (pmL p)).length = 2 ^ p.length := by rw [colsM_len, hL]
    have hr := amps_rect (n := 2 ^ p.length) (M := colsM (pmL p)) fun r hr => by
      obtain ⟨k, -, rfl⟩ := List.mem_map.1 hr
      rw [col_len, hL]
    refine ⟨by omega, ?_⟩
    rw [hr, hc]
    exact Nat.mul_le_mul h16 h16
  · exact ⟨by decide, by decide⟩
end Go.Proofs.YtmpafidkpangeaaGreat
namespace Go.Proofs.YtmpafidkpangeaaGreat
open Go.RowKit
theorem permB_no {p : List Int} {j : Nat} (hj : j < p.length) (h : plB p j = false) : permB p = false := by
  cases hp : permB p with
  | false => rfl
  | true => rw [(permB_iff.1 hp).1 j hj] at h; cases h
theorem permB_len {p : List Int} (h : ∀ i, i < p.length → plB p i = true) : permB p = decide (1 ≤ (p.length : Int) ∧ (p.length : Int) ≤ 4) := by
  rw [Bool.eq_iff_iff, permB_iff, decide_eq_true_eq]
  exact ⟨fun k => by omega, fun k => ⟨h, by omega, by omega⟩⟩
/-- The elements are machine integers. -/
def Ei (l : List Int) : Prop := ∀ x ∈ l, -9223372036854775808 ≤ x ∧ x ≤ 9223372036854775807
attribute [local irreducible] World.cell?
set_option maxRecDepth 100000 in
set_option maxHeartbeats 3200000 in
theorem sisP (B : Nat) (v : Value) (p : List Int) (w : World) (hv : intE.Sl w B v p) (he : Ei p) (hm : p.length ≤ 1048576) :
    Calls Tryz.prog 75 #[v] w fun e w' => e = .returned (.bool (permB p)) ∧ Below w.heap.size w w' := by
  obtain ⟨a, cap, rfl, hcap, hr⟩ := hv
  have Hr := Lib.hid hr
  obtain ⟨T, hT⟩ : ∃ T, T = permB p := ⟨_, rfl⟩
  rw [← hT]
  have HT := Lib.hid hT
  have He := Lib.hid he
  clear hr hT he
  go_enter Tryz.func75, Tryz.ntmps75
  go_wp2_with fail
  go_loopg [3] p.length (fun n i wr => ∃ j : Nat, n = p.length - j ∧ j ≤ p.length ∧ i = .int .i64 j ∧ Hid (∀ k, k < j → plB p k = true) ∧ Hid (Below w.heap.size w wr))
  case atStart => exact ⟨0, rfl, Nat.zero_le _, rfl, Lib.hid (fun k hk => absurd hk (Nat.not_lt_zero _)), Below.refl _ _⟩
  case round =>
    obtain ⟨j, rfl, hj, rfl, Hall, Hb⟩ := hrel
    by_cases hlt : j < p.length
    · obtain ⟨g, rfl, _, hrow0⟩ := Hr.out (by omega)
      have hrow := hrow0.below Hb.out hrow0.lt
      obtain ⟨x, hx⟩ : ∃ x, p[j]? = some x := ⟨p[j], List.getElem?_eq_getElem hlt⟩
      have c0 := IRow.cell hrow hx
      have hgl := hrow.lt
      have hgd : p.getD j 0 = x := by rw [List.getD_eq_getElem?_getD, hx]; rfl
      have hPl : plB p j = (decide (0 ≤ x ∧ x ≤ (p.length : Int) - 1) && !decide (x ∈ p.take j)) := by unfold plB; rw [hgd]
      have Hs := Lib.hid (fun q => shas g (.slice (some ⟨g, 0, none⟩) (p.take j).length cap) (p.take j) x (wr.drewN q) (Enc.Sl.mk rfl (by rw [List.length_take]; omega) (Nat.le_refl _) ((hrow.take j).block rfl)) (by rw [List.length_take]; omega))
      rw [List.length_take, Nat.min_eq_left (show j ≤ p.length by omega)] at Hs
      have Hno := Lib.hid (fun h => permB_no hlt h)
      have Hyes := Lib.hid (fun (h : plB p j = true) k (hk : k < j + 1) => show plB p k = true by
        rcases Nat.lt_succ_iff_lt_or_eq.1 hk with h' | rfl
        · exact Hall.out k h'
        · exact h)
      clear hx hgd hrow hrow0
      by_cases hin : 0 ≤ x ∧ x ≤ (p.length : Int) - 1
      · have Hl := Lib.hid (fun W => lin_q x 0 ((p.length : Int) - 1) true W (decide_eq_true hin))
        rw [decide_eq_true hin, Bool.true_and] at hPl
        clear hin
        by_cases hmem : x ∈ p.take j
        · rw [decide_eq_true hmem] at hPl Hs
          have Hpl := Lib.hid (show plB p j = false from hPl)
          clear hPl hmem
          go_upto_region 4 with fail
          go_quiet (first | (go_at_call 68; exact Calls.quiet_of_same (Hl.out _)) | (go_at_call 126; exact Calls.quiet_of_same (Hs.out _)))
          obtain rfl : T = false := HT.out.trans (Hno.out Hpl.out)
          go_wp2_with fail
          go_ret
          exact ⟨rfl, below_dn Hb.out _⟩
        · rw [decide_eq_false hmem] at hPl Hs
          have Hpl := Lib.hid (show plB p j = true from hPl)
          clear hPl hmem
          go_upto_region 4 with fail
          go_quiet (first | (go_at_call 68; exact Calls.quiet_of_same (Hl.out _)) | (go_at_call 126; exact Calls.quiet_of_same (Hs.out _)))
          go_wp2_with fail
          go_roundg (p.length - (j + 1))
          case measure => omega
          case rel => exact ⟨j + 1, rfl, by omega, by go_num, Lib.hid (Hyes.out Hpl.out), Lib.hid (below_dn Hb.out _)⟩
      · have Hl := Lib.hid (fun W => lin_q x 0 ((p.length : Int) - 1) false W (decide_eq_false hin))
        rw [decide_eq_false hin, Bool.false_and] at hPl
        have Hpl := Lib.hid hPl
        clear hPl hin
        go_upto_region 4 with fail
        go_quiet (first | (go_at_call 68; exact Calls.quiet_of_same (Hl.out _)) | (go_at_call 126; exact Calls.quiet_of_same (Hs.out _)))
        obtain rfl : T = false := HT.out.trans (Hno.out Hpl.out)
        go_wp2_with fail
        go_ret
        exact ⟨rfl, below_dn Hb.out _⟩
    · obtain rfl : j = p.length := by omega
      have H1 := Lib.hid (fun w => lin_any (p.length : Int) 1 4 T w (by rw [HT.out]; exact (permB_len Hall.out).symm))
      go_wp2_with fail
      refine (H1.out _).mono ?_
      rintro e w2 ⟨rfl, rfl⟩
      go_wp2_with fail
      go_ret
      exact ⟨rfl, Hb.out⟩
end Go.Proofs.YtmpafidkpangeaaGreat
namespace Go.Proofs.YtmpafidkpangeaaGreat
open Go.RowKit
theorem pixS_lt {p : List Int} (h : permB p = true) (i : Nat) : ∀ j, j ≤ p.length → pixS p i j < 16
  | 0, _ => by show 0 < 16; decide
  | j + 1, hj => by
    have h1 := pixS_lt h i j (by omega)
    rw [pixS]
    have hx : (p.getD j 0).toNat < 4 := by
      have hl := (permB_iff.1 h).2.2
      have h2 := permB_at h (i := j) (x := p[j]'(by omega)) (List.getElem?_eq_getElem _)
      rw [List.getD_eq_getElem?_getD, List.getElem?_eq_getElem (by omega)]
      simp only [Option.getD_some]
      omega
    have h3 : (i >>> j &&& 1) <<< (p.getD j 0).toNat < 2 ^ 4 := by
      have h4 : i >>> j &&& 1 ≤ 1 := Nat.and_le_right
      rw [Nat.shiftLeft_eq]
      have h5 : 2 ^ (p.getD j 0).toNat ≤ 2 ^ 3 := Nat.pow_le_pow_right (by decide) (by omega)
      have h6 := Nat.mul_le_mul h4 h5
      omega
    exact Nat.or_lt_two_pow (n := 4) h1 h3
theorem pix_no {p : List Int} {i : Int} (h : ¬ (0 ≤ i ∧ i ≤ 2 ^ p.length - 1)) : pix p i = 0 := by
  unfold pix pixB
  rw [decide_eq_false h, Bool.and_false]
  rfl
theorem pix_yes {p : List Int} {m : Nat} (hP : permB p = true) (h : (m : Int) ≤ 2 ^ p.length - 1) : pix p (m : Int) = ((pixS p m p.length : Nat) : Int) := by
  unfold pix pixB
  rw [hP, decide_eq_true ⟨by omega, h⟩]
  rfl
theorem pix_rg {p : List Int} (i : Int) : 0 ≤ pix p i ∧ pix p i < 16 := by
  unfold pix pixB
  split
  · rename_i h
    rw [Bool.and_eq_true] at h
    have := pixS_lt h.1 i.toNat p.length (Nat.le_refl _)
    omega
  · omega
theorem pix_key : ∀ o, o < 16 → ∀ m, m < 16 → ∀ j, j < 4 → ∀ k, k < 4 → bits .or .i64 ((o : Nat) : Int) (wrap64 (bits .and .i64 (((m : Nat) : Int) / 2 ^ j) 1 * 2 ^ k)) = ((o ||| ((m >>> j &&& 1) <<< k) : Nat) : Int) := by decide +kernel
theorem pix_step {o q m j k : Nat} (h : q = o ||| ((m >>> j &&& 1) <<< k)) (ho : o < 16) (hm : m < 16) (hj : j < 4) (hk : k < 4) : Value.int .i64 (bits .or .i64 (o : Int) (wrap64 (bits .and .i64 ((m : Int) / 2 ^ j) 1 * 2 ^ k))) = Value.int .i64 (q : Int) := by
  rw [h, pix_key o ho m hm j hj k hk]
attribute [local irreducible] World.cell?
set_option maxRecDepth 100000 in
set_option maxHeartbeats 3200000 in
theorem spix1 (B : Nat) (v : Value) (p : List Int) (i : Int) (w : World) (hv : intE.Sl w B v p) (hep : Ei p) (hP : permB p = true) (hl : p.length = 1) (i0 : -9223372036854775808 ≤ i) (i1 : i ≤ 9223372036854775807) :
    Calls Tryz.prog 79 #[v, .int .i64 i] w fun e w' => e = .returned (.int .i64 (pix p i)) ∧ Below w.heap.size w w' := by
  have H1 := Lib.hid (sisP B v p w hv hep (by omega))
  rw [hP] at H1
  by_cases hi : 0 ≤ i ∧ i ≤ 1
  · obtain ⟨m, rfl⟩ : ∃ m : Nat, i = m := ⟨i.toNat, by omega⟩
    have hm : m < 2 := by omega
    have Hpix := Lib.hid (show pix p (m : Int) = ((pixS p m 1 : Nat) : Int) by have h := pix_yes (m := m) hP (by rw [hl]; omega); rwa [hl] at h)
    rw [Hpix.out]
    have H2 := Lib.hid (fun w => lin_any (m : Int) 0 1 true w (decide_eq_true hi))
    have Hp := Lib.hid (fun (j : Nat) (x : Int) (h : p[j]? = some x) => permB_at hP h)
    have Hlt := Lib.hid (fun j (hj : j ≤ 1) => pixS_lt hP m j (by omega))
    have Hst := Lib.hid (fun j => show pixS p m (j + 1) = pixS p m j ||| ((m >>> j &&& 1) <<< (p.getD j 0).toNat) from rfl)
    clear hep hP hi i0 i1 Hpix
    obtain ⟨a, cap, rfl, hcap, hr⟩ := hv
    rw [hl] at hcap hr H1 ⊢
    have Hr := Lib.hid hr
    have Hl := Lib.hid hl
    clear hr hl
    go_enter Tryz.func79, Tryz.ntmps79
    go_wp2_with fail
    refine (H1.out).mono ?_
    rintro e w1 ⟨rfl, hb1⟩
    have Hb1 := Lib.hid hb1
    clear hb1
    go_wp2_with fail
    refine (H2.out _).mono ?_
    rintro e w2 ⟨rfl, rfl⟩
    go_wp2_with fail
    go_loopg [5, 6] 1 (fun n out i wr => ∃ j : Nat, n = 1 - j ∧ j ≤ 1 ∧ i = .int .i64 j ∧ out = .int .i64 ((pixS p m j : Nat) : Int) ∧ Hid (Below w.heap.size w wr))
    case atStart => exact ⟨0, rfl, Nat.zero_le _, rfl, rfl, Hb1⟩
    case round =>
      obtain ⟨j, rfl, hj, rfl, rfl, Hb⟩ := hrel
      by_cases hlt : j < 1
      · obtain ⟨g, rfl, _, hrow⟩ := Hr.out (by omega)
        obtain ⟨x, hx⟩ : ∃ x, p[j]? = some x := ⟨p[j]'(by have := Hl.out; omega), List.getElem?_eq_getElem _⟩
        obtain ⟨x0, x1⟩ := Hp.out j x hx
        rw [Hl.out] at x1
        obtain ⟨k, rfl⟩ : ∃ k : Nat, x = k := ⟨x.toNat, by omega⟩
        have hk : k < 1 := by omega
        have r1 := hrow.below Hb.out hrow.lt
        have c0 := IRow.cell r1 hx
        have hgl := r1.lt
        have hgd : (p.getD j 0).toNat = k := by rw [List.getD_eq_getElem?_getD, hx]; rfl
        have Hs := Lib.hid (Hst.out j)
        rw [hgd] at Hs
        have hb := Hlt.out j hj
        generalize pixS p m j = o at *
        clear hx hrow r1 hgd
        go_wp2_with fail
        go_roundg (1 - (j + 1))
        case measure => omega
        case rel => exact ⟨j + 1, rfl, by omega, by go_num, pix_step Hs.out hb (by omega) (by omega) (by omega), Hb⟩
      · obtain rfl : j = 1 := by omega
        go_wp2_with fail
        go_ret
        exact ⟨rfl, Hb.out⟩
  · have H2 := Lib.hid (fun w => lin_any i 0 1 false w (decide_eq_false hi))
    rw [pix_no (by rw [hl]; simpa using hi)]
    clear hep hP hi i0 i1
    obtain ⟨a, cap, rfl, hcap, -⟩ := hv
    rw [hl] at hcap H1 ⊢
    clear hl
    go_enter Tryz.func79, Tryz.ntmps79
    go_wp2_with fail
    refine (H1.out).mono ?_
    rintro e w1 ⟨rfl, hb1⟩
    have Hb1 := Lib.hid hb1
    clear hb1
    go_wp2_with fail
    refine (H2.out _).mono ?_
    rintro e w2 ⟨rfl, rfl⟩
    go_wp2_with fail
    go_ret
    exact ⟨rfl, Hb1.out⟩
set_option maxRecDepth 100000 in
set_option maxHeartbeats 3200000 in
theorem spix2 (B : Nat) (v : Value) (p : List Int) (i : Int) (w : World) (hv : intE.Sl w B v p) (hep : Ei p) (hP : permB p = true) (hl : p.length = 2) (i0 : -9223372036854775808 ≤ i) (i1 : i ≤ 9223372036854775807) :
    Calls Tryz.prog 79 #[v, .int .i64 i] w fun e w' => e = .returned (.int .i64 (pix p i)) ∧ Below w.heap.size w w' := by
  have H1 := Lib.hid (sisP B v p w hv hep (by omega))
  rw [hP] at H1
  by_cases hi : 0 ≤ i ∧ i ≤ 3
  · obtain ⟨m, rfl⟩ : ∃ m : Nat, i = m := ⟨i.toNat, by omega⟩
    have hm : m < 4 := by omega
    have Hpix := Lib.hid (show pix p (m : Int) = ((pixS p m 2 : Nat) : Int) by have h := pix_yes (m := m) hP (by rw [hl]; omega); rwa [hl] at h)
    rw [Hpix.out]
    have H2 := Lib.hid (fun w => lin_any (m : Int) 0 3 true w (decide_eq_true hi))
    have Hp := Lib.hid (fun (j : Nat) (x : Int) (h : p[j]? = some x) => permB_at hP h)
    have Hlt := Lib.hid (fun j (hj : j ≤ 2) => pixS_lt hP m j (by omega))
    have Hst := Lib.hid (fun j => show pixS p m (j + 1) = pixS p m j ||| ((m >>> j &&& 1) <<< (p.getD j 0).toNat) from rfl)
    clear hep hP hi i0 i1 Hpix
    obtain ⟨a, cap, rfl, hcap, hr⟩ := hv
    rw [hl] at hcap hr H1 ⊢
    have Hr := Lib.hid hr
    have Hl := Lib.hid hl
    clear hr hl
    go_enter Tryz.func79, Tryz.ntmps79
    go_wp2_with fail
    refine (H1.out).mono ?_
    rintro e w1 ⟨rfl, hb1⟩
    have Hb1 := Lib.hid hb1
    clear hb1
    go_wp2_with fail
    refine (H2.out _).mono ?_
    rintro e w2 ⟨rfl, rfl⟩
    go_wp2_with fail
    go_loopg [5, 6] 2 (fun n out i wr => ∃ j : Nat, n = 2 - j ∧ j ≤ 2 ∧ i = .int .i64 j ∧ out = .int .i64 ((pixS p m j : Nat) : Int) ∧ Hid (Below w.heap.size w wr))
    case atStart => exact ⟨0, rfl, Nat.zero_le _, rfl, rfl, Hb1⟩
    case round =>
      obtain ⟨j, rfl, hj, rfl, rfl, Hb⟩ := hrel
      by_cases hlt : j < 2
      · obtain ⟨g, rfl, _, hrow⟩ := Hr.out (by omega)
        obtain ⟨x, hx⟩ : ∃ x, p[j]? = some x := ⟨p[j]'(by have := Hl.out; omega), List.getElem?_eq_getElem _⟩
        obtain ⟨x0, x1⟩ := Hp.out j x hx
        rw [Hl.out] at x1
        obtain ⟨k, rfl⟩ : ∃ k : Nat, x = k := ⟨x.toNat, by omega⟩
        have hk : k < 2 := by omega
        have r1 := hrow.below Hb.out hrow.lt
        have c0 := IRow.cell r1 hx
        have hgl := r1.lt
        have hgd : (p.getD j 0).toNat = k := by rw [List.getD_eq_getElem?_getD, hx]; rfl
        have Hs := Lib.hid (Hst.out j)
        rw [hgd] at Hs
        have hb := Hlt.out j hj
        generalize pixS p m j = o at *
        clear hx hrow r1 hgd
        go_wp2_with fail
        go_roundg (2 - (j + 1))
        case measure => omega
        case rel => exact ⟨j + 1, rfl, by omega, by go_num, pix_step Hs.out hb (by omega) (by omega) (by omega), Hb⟩
      · obtain rfl : j = 2 := by omega
        go_wp2_with fail
        go_ret
        exact ⟨rfl, Hb.out⟩
  · have H2 := Lib.hid (fun w => lin_any i 0 3 false w (decide_eq_false hi))
    rw [pix_no (by rw [hl]; simpa using hi)]
    clear hep hP hi i0 i1
    obtain ⟨a, cap, rfl, hcap, -⟩ := hv
    rw [hl] at hcap H1 ⊢
    clear hl
    go_enter Tryz.func79, Tryz.ntmps79
    go_wp2_with fail
    refine (H1.out).mono ?_
    rintro e w1 ⟨rfl, hb1⟩
    have Hb1 := Lib.hid hb1
    clear hb1
    go_wp2_with fail
    refine (H2.out _).mono ?_
    rintro e w2 ⟨rfl, rfl⟩
    go_wp2_with fail
    go_ret
    exact ⟨rfl, Hb1.out⟩
set_option maxRecDepth 100000 in
set_option maxHeartbeats 3200000 in
theorem spix3 (B : Nat) (v : Value) (p : List Int) (i : Int) (w : World) (hv : intE.Sl w B v p) (hep : Ei p) (hP : permB p = true) (hl : p.length = 3) (i0 : -9223372036854775808 ≤ i) (i1 : i ≤ 9223372036854775807) :
    Calls Tryz.prog 79 #[v, .int .i64 i] w fun e w' => e = .returned (.int .i64 (pix p i)) ∧ Below w.heap.size w w' := by
  have H1 := Lib.hid (sisP B v p w hv hep (by omega))
  rw [hP] at H1
  by_cases hi : 0 ≤ i ∧ i ≤ 7
  · obtain ⟨m, rfl⟩ : ∃ m : Nat, i = m := ⟨i.toNat, by omega⟩
    have hm : m < 8 := by omega
    have Hpix := Lib.hid (show pix p (m : Int) = ((pixS p m 3 : Nat) : Int) by have h := pix_yes (m := m) hP (by rw [hl]; omega); rwa [hl] at h)
    rw [Hpix.out]
    have H2 := Lib.hid (fun w => lin_any (m : Int) 0 7 true w (decide_eq_true hi))
    have Hp := Lib.hid (fun (j : Nat) (x : Int) (h : p[j]? = some x) => permB_at hP h)
    have Hlt := Lib.hid (fun j (hj : j ≤ 3) => pixS_lt hP m j (by omega))
    have Hst := Lib.hid (fun j => show pixS p m (j + 1) = pixS p m j ||| ((m >>> j &&& 1) <<< (p.getD j 0).toNat) from rfl)
    clear hep hP hi i0 i1 Hpix
    obtain ⟨a, cap, rfl, hcap, hr⟩ := hv
    rw [hl] at hcap hr H1 ⊢
    have Hr := Lib.hid hr
    have Hl := Lib.hid hl
    clear hr hl
    go_enter Tryz.func79, Tryz.ntmps79
    go_wp2_with fail
    refine (H1.out).mono ?_
    rintro e w1 ⟨rfl, hb1⟩
    have Hb1 := Lib.hid hb1
    clear hb1
    go_wp2_with fail
    refine (H2.out _).mono ?_
    rintro e w2 ⟨rfl, rfl⟩
    go_wp2_with fail
    go_loopg [5, 6] 3 (fun n out i wr => ∃ j : Nat, n = 3 - j ∧ j ≤ 3 ∧ i = .int .i64 j ∧ out = .int .i64 ((pixS p m j : Nat) : Int) ∧ Hid (Below w.heap.size w wr))
    case atStart => exact ⟨0, rfl, Nat.zero_le _, rfl, rfl, Hb1⟩
    case round =>
      obtain ⟨j, rfl, hj, rfl, rfl, Hb⟩ := hrel
      by_cases hlt : j < 3
      · obtain ⟨g, rfl, _, hrow⟩ := Hr.out (by omega)
        obtain ⟨x, hx⟩ : ∃ x, p[j]? = some x := ⟨p[j]'(by have := Hl.out; omega), List.getElem?_eq_getElem _⟩
        obtain ⟨x0, x1⟩ := Hp.out j x hx
        rw [Hl.out] at x1
        obtain ⟨k, rfl⟩ : ∃ k : Nat, x = k := ⟨x.toNat, by omega⟩
        have hk : k < 3 := by omega
        have r1 := hrow.below Hb.out hrow.lt
        have c0 := IRow.cell r1 hx
        have hgl := r1.lt
        have hgd : (p.getD j 0).toNat = k := by rw [List.getD_eq_getElem?_getD, hx]; rfl
        have Hs := Lib.hid (Hst.out j)
        rw [hgd] at Hs
        have hb := Hlt.out j hj
        generalize pixS p m j = o at *
        clear hx hrow r1 hgd
        go_wp2_with fail
        go_roundg (3 - (j + 1))
        case measure => omega
        case rel => exact ⟨j + 1, rfl, by omega, by go_num, pix_step Hs.out hb (by omega) (by omega) (by omega), Hb⟩
      · obtain rfl : j = 3 := by omega
        go_wp2_with fail
        go_ret
        exact ⟨rfl, Hb.out⟩
  · have H2 := Lib.hid (fun w => lin_any i 0 7 false w (decide_eq_false hi))
    rw [pix_no (by rw [hl]; simpa using hi)]
    clear hep hP hi i0 i1
    obtain ⟨a, cap, rfl, hcap, -⟩ := hv
    rw [hl] at hcap H1 ⊢
    clear hl
    go_enter Tryz.func79, Tryz.ntmps79
    go_wp2_with fail
    refine (H1.out).mono ?_
    rintro e w1 ⟨rfl, hb1⟩
    have Hb1 := Lib.hid hb1
    clear hb1
    go_wp2_with fail
    refine (H2.out _).mono ?_
    rintro e w2 ⟨rfl, rfl⟩
    go_wp2_with fail
    go_ret
    exact ⟨rfl, Hb1.out⟩
set_option maxRecDepth 100000 in
set_option maxHeartbeats 3200000 in
theorem spix4 (B : Nat) (v : Value) (p : List Int) (i : Int) (w : World) (hv : intE.Sl w B v p) (hep : Ei p) (hP : permB p = true) (hl : p.length = 4) (i0 : -9223372036854775808 ≤ i) (i1 : i ≤ 9223372036854775807) :
    Calls Tryz.prog 79 #[v, .int .i64 i] w fun e w' => e = .returned (.int .i64 (pix p i)) ∧ Below w.heap.size w w' := by
  have H1 := Lib.hid (sisP B v p w hv hep (by omega))
  rw [hP] at H1
  by_cases hi : 0 ≤ i ∧ i ≤ 15
  · obtain ⟨m, rfl⟩ : ∃ m : Nat, i = m := ⟨i.toNat, by omega⟩
    have hm : m < 16 := by omega
    have Hpix := Lib.hid (show pix p (m : Int) = ((pixS p m 4 : Nat) : Int) by have h := pix_yes (m := m) hP (by rw [hl]; omega); rwa [hl] at h)
    rw [Hpix.out]
    have H2 := Lib.hid (fun w => lin_any (m : Int) 0 15 true w (decide_eq_true hi))
    have Hp := Lib.hid (fun (j : Nat) (x : Int) (h : p[j]? = some x) => permB_at hP h)
    have Hlt := Lib.hid (fun j (hj : j ≤ 4) => pixS_lt hP m j (by omega))
    have Hst := Lib.hid (fun j => show pixS p m (j + 1) = pixS p m j ||| ((m >>> j &&& 1) <<< (p.getD j 0).toNat) from rfl)
    clear hep hP hi i0 i1 Hpix
    obtain ⟨a, cap, rfl, hcap, hr⟩ := hv
    rw [hl] at hcap hr H1 ⊢
    have Hr := Lib.hid hr
    have Hl := Lib.hid hl
    clear hr hl
    go_enter Tryz.func79, Tryz.ntmps79
    go_wp2_with fail
    refine (H1.out).mono ?_
    rintro e w1 ⟨rfl, hb1⟩
    have Hb1 := Lib.hid hb1
    clear hb1
    go_wp2_with fail
    refine (H2.out _).mono ?_
    rintro e w2 ⟨rfl, rfl⟩
    go_wp2_with fail
    go_loopg [5, 6] 4 (fun n out i wr => ∃ j : Nat, n = 4 - j ∧ j ≤ 4 ∧ i = .int .i64 j ∧ out = .int .i64 ((pixS p m j : Nat) : Int) ∧ Hid (Below w.heap.size w wr))
    case atStart => exact ⟨0, rfl, Nat.zero_le _, rfl, rfl, Hb1⟩
    case round =>
      obtain ⟨j, rfl, hj, rfl, rfl, Hb⟩ := hrel
      by_cases hlt : j < 4
      · obtain ⟨g, rfl, _, hrow⟩ := Hr.out (by omega)
        obtain ⟨x, hx⟩ : ∃ x, p[j]? = some x := ⟨p[j]'(by have := Hl.out; omega), List.getElem?_eq_getElem _⟩
        obtain ⟨x0, x1⟩ := Hp.out j x hx
        rw [Hl.out] at x1
        obtain ⟨k, rfl⟩ : ∃ k : Nat, x = k := ⟨x.toNat, by omega⟩
        have hk : k < 4 := by omega
        have r1 := hrow.below Hb.out hrow.lt
        have c0 := IRow.cell r1 hx
        have hgl := r1.lt
        have hgd : (p.getD j 0).toNat = k := by rw [List.getD_eq_getElem?_getD, hx]; rfl
        have Hs := Lib.hid (Hst.out j)
        rw [hgd] at Hs
        have hb := Hlt.out j hj
        generalize pixS p m j = o at *
        clear hx hrow r1 hgd
        go_wp2_with fail
        go_roundg (4 - (j + 1))
        case measure => omega
        case rel => exact ⟨j + 1, rfl, by omega, by go_num, pix_step Hs.out hb (by omega) (by omega) (by omega), Hb⟩
      · obtain rfl : j = 4 := by omega
        go_wp2_with fail
        go_ret
        exact ⟨rfl, Hb.out⟩
  · have H2 := Lib.hid (fun w => lin_any i 0 15 false w (decide_eq_false hi))
    rw [pix_no (by rw [hl]; simpa using hi)]
    clear hep hP hi i0 i1
    obtain ⟨a, cap, rfl, hcap, -⟩ := hv
    rw [hl] at hcap H1 ⊢
    clear hl
    go_enter Tryz.func79, Tryz.ntmps79
    go_wp2_with fail
    refine (H1.out).mono ?_
    rintro e w1 ⟨rfl, hb1⟩
    have Hb1 := Lib.hid hb1
    clear hb1
    go_wp2_with fail
    refine (H2.out _).mono ?_
    rintro e w2 ⟨rfl, rfl⟩
    go_wp2_with fail
    go_ret
    exact ⟨rfl, Hb1.out⟩
set_option maxRecDepth 100000 in
set_option maxHeartbeats 1600000 in
theorem spix (B : Nat) (v : Value) (p : List Int) (i : Int) (w : World) (hv : intE.Sl w B v p) (hep : Ei p) (hm : p.length ≤ 1048576) (i0 : -9223372036854775808 ≤ i) (i1 : i ≤ 9223372036854775807) :
    Calls Tryz.prog 79 #[v, .int .i64 i] w fun e w' => e = .returned (.int .i64 (pix p i)) ∧ Below w.heap.size w w' := by
  cases hP : permB p with
  | false =>
    have H1 := Lib.hid (sisP B v p w hv hep hm)
    rw [hP] at H1
    rw [show pix p i = 0 from by unfold pix pixB; rw [hP]; rfl]
    clear hep hP
    obtain ⟨a, cap, rfl, hcap, -⟩ := hv
    go_enter Tryz.func79, Tryz.ntmps79
    go_wp2_with fail
    refine (H1.out).mono ?_
    rintro e w1 ⟨rfl, hb1⟩
    have Hb1 := Lib.hid hb1
    clear hb1
    go_wp2_with fail
    go_ret
    exact ⟨rfl, Hb1.out⟩
  | true =>
    have h4 := (permB_iff.1 hP).2
    rcases (show p.length = 1 ∨ p.length = 2 ∨ p.length = 3 ∨ p.length = 4 by omega) with e | e | e | e
    · exact spix1 B v p i w hv hep hP e i0 i1
    · exact spix2 B v p i w hv hep hP e i0 i1
    · exact spix3 B v p i w hv hep hP e i0 i1
    · exact spix4 B v p i w hv hep hP e i0 i1
end Go.Proofs.YtmpafidkpangeaaGreat
namespace Go.Proofs.YtmpafidkpangeaaGreat
/-- The list in ascending order. -/
def sortL (l : List Int) : List Int := l.mergeSort fun x y => decide (x ≤ y)
theorem sortL_len (l : List Int) : (sortL l).length = l.length := List.length_mergeSort l
theorem sortL_perm (l : List Int) : (sortL l).Perm l := List.mergeSort_perm l _
theorem sortL_up (l : List Int) : (sortL l).Pairwise (fun x y => x ≤ y) := by
  have h := List.pairwise_mergeSort (le := fun (x y : Int) => decide (x ≤ y)) (fun a b c h k => decide_eq_true (Int.le_trans (of_decide_eq_true h) (of_decide_eq_true k))) (fun a b => by
    rcases Int.le_total a b with h | h
    · rw [decide_eq_true h]; rfl
    · rw [decide_eq_true h, Bool.or_true]) l
  exact h.imp fun h => of_decide_eq_true h
theorem sortL_of_perm {l m : List Int} (h : l.Perm m) : sortL l = sortL m :=
  List.Perm.eq_of_pairwise (fun _ _ _ _ h k => Int.le_antisymm h k) (sortL_up l) (sortL_up m) ((sortL_perm l).trans (h.trans (sortL_perm m).symm))
theorem upI_up (n : Nat) : (upI n).Pairwise (fun x y => x ≤ y) := by
  unfold upI
  rw [List.pairwise_map]
  exact List.pairwise_le_range.imp fun h => Int.ofNat_le.2 h
theorem sortL_upI (n : Nat) : sortL (upI n) = upI n :=
  List.Perm.eq_of_pairwise (fun _ _ _ _ h k => Int.le_antisymm h k) (sortL_up _) (upI_up n) (sortL_perm _)
theorem perm_all : allP.all (fun p => p.isPerm (upI p.length)) = true := by decide +kernel
theorem small_perm : ∀ n, n ≤ 4 → ∀ p ∈ (List.range n).foldr (fun _ (acc : List (List Int)) => acc.flatMap fun t => [0, 1, 2, 3].map fun (x : Int) => x :: t) [[]], p.length ≠ 0 → p.isPerm (upI p.length) = true → permB p = true := by
  intro n hn
  rcases (show n = 0 ∨ n = 1 ∨ n = 2 ∨ n = 3 ∨ n = 4 by omega) with rfl | rfl | rfl | rfl | rfl <;> decide +kernel
/-- IsPermutation by the sorted list. -/
theorem permB_sort {p : List Int} (h1 : 1 ≤ p.length) (h4 : p.length ≤ 4) : permB p = decide (sortL p = upI p.length) := by
  rw [Bool.eq_iff_iff, decide_eq_true_eq]
  constructor
  · intro h
    have h1 := List.isPerm_iff.1 (List.all_eq_true.1 perm_all p (perm_mem h))
    rw [sortL_of_perm h1, sortL_upI]
  · intro h
    have hp : p.Perm (upI p.length) := by
      have := (sortL_perm p).symm
      rwa [h] at this
    refine small_perm p.length h4 p (small_all p.length p rfl fun x hx => ?_) (by omega) (List.isPerm_iff.2 hp)
    have hm := hp.mem_iff.1 hx
    obtain ⟨i, hi, rfl⟩ := List.mem_map.1 hm
    have := List.mem_range.1 hi
    omega
theorem permB_size {p : List Int} (h : ¬ (1 ≤ p.length ∧ p.length ≤ 4)) : permB p = false := by
  cases hp : permB p with
  | false => rfl
  | true => exact absurd (permB_iff.1 hp).2 h
/-- The first j integers, then zeros. -/
def upZ (n j : Nat) : List Int := upI j ++ List.replicate (n - j) 0
theorem upI_snoc (j : Nat) : upI (j + 1) = upI j ++ [(j : Int)] := by
  unfold upI
  rw [List.range_succ, List.map_append]
  rfl
theorem upI_ln (n : Nat) : (upI n).length = n := by simp [upI]
theorem upZ_len {n j : Nat} (h : j ≤ n) : (upZ n j).length = n := by
  rw [upZ, List.length_append, upI_ln, List.length_replicate]; omega
theorem upZ_zero (n : Nat) : upZ n 0 = List.replicate n 0 := rfl
theorem upZ_all (n : Nat) : upZ n n = upI n := by simp [upZ]
theorem upZ_step {n j : Nat} (h : j < n) : (upZ n j).set j (j : Int) = upZ n (j + 1) := by
  rw [upZ, upZ, List.set_append_right _ _ (by rw [upI_ln]; exact Nat.le_refl _), upI_ln, Nat.sub_self, show n - j = (n - (j + 1)) + 1 by omega, List.replicate_succ, List.set_cons_zero, upI_snoc, List.append_assoc]
  rfl
end Go.Proofs.YtmpafidkpangeaaGreat
