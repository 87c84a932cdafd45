/- The model's CircuitDepth and CircuitFromLayers. -/
import Derived.Test.YtckfklpgnneodaaLyS
import Derived.Test.YtckfklpgnneodaaBaseB13
namespace Go.Proofs.Ytckfklpgnneodaa
open Go.RowKit
open Classical in
/-- CircuitFromLayers: whether it answers, and what. -/
noncomputable def cfB (n : Int) (M : List (List Gt)) : Bool := decide (∀ l ∈ M, lyOk l) && ciB n M.flatten
noncomputable def cfN (n : Int) (M : List (List Gt)) : Int := if cfB n M then n else 0
noncomputable def cfL (n : Int) (M : List (List Gt)) : List Gt := if cfB n M then M.flatten else []
open Classical in
theorem cfB_no {n : Int} {M : List (List Gt)} {j k : Nat} {r : List Gt} {x : Gt} (h : M[j]? = some r) (h1 : r[k]? = some x) (h2 : anyG (r.take k) x = true) : cfB n M = false := by
  unfold cfB
  rw [Bool.and_eq_false_iff]
  refine .inl (decide_eq_false fun hn => ?_)
  rw [hn r (List.mem_of_getElem? h) k x h1] at h2
  cases h2
open Classical in
theorem cfB_all {n : Int} {M : List (List Gt)} (h : ∀ l ∈ M, lyOk l) : cfB n M = ciB n M.flatten := by
  unfold cfB
  rw [decide_eq_true h, Bool.true_and]
def HCf (w : World) (lg j : Nat) (rv : Value) (gl o : Nat) (x : Gt) (w' : World) : Prop := w'.cell? ⟨lg, j, none⟩ = some rv ∧ w'.cell? ⟨gl, o, none⟩ = some (.int .i64 x.k) ∧ w'.cell? ⟨gl, o + 1, none⟩ = some (.int .i64 x.a) ∧ w'.cell? ⟨gl, o + 2, none⟩ = some (.int .i64 x.b) ∧ w'.cell? ⟨gl, o + 3, none⟩ = some (.int .i64 x.c) ∧ lg < w'.heap.size ∧ gl < w'.heap.size ∧ Below w.heap.size w w'
theorem HCf.drew {w w1 : World} {lg j gl o : Nat} {rv : Value} {x : Gt} (h : HCf w lg j rv gl o x w1) : HCf w lg j rv gl o x w1.drew :=
  let ⟨c0, c1, c2, c3, c4, z0, z1, l⟩ := h; ⟨c0, c1, c2, c3, c4, z0, z1, l.drew⟩
theorem HCf.below {w w1 w2 : World} {lg j gl o : Nat} {rv : Value} {x : Gt} (h : HCf w lg j rv gl o x w1) (hb : Below w1.heap.size w1 w2) : HCf w lg j rv gl o x w2 :=
  let ⟨c0, c1, c2, c3, c4, z0, z1, l⟩ := h
  ⟨cell_below c0 hb z0, cell_below c1 hb z1, cell_below c2 hb z1, cell_below c3 hb z1, cell_below c4 hb z1, Nat.lt_of_lt_of_le z0 hb.size, Nat.lt_of_lt_of_le z1 hb.size, below_up l hb l.size⟩
attribute [local irreducible] World.cell?
set_option maxRecDepth 100000 in
set_option maxHeartbeats 3200000 in
theorem sdepth (B : Nat) (n : Int) (v : Value) (L : List Gt) (w : World) (hv : gtE.Sl w B v L) (hm : L.length ≤ 1048576) :
    Calls Try.prog 14 #[.agg #[.int .i64 n, v]] w fun e w' => e = .returned (.int .i64 (lysM n L).length) ∧ Below w.heap.size w w' := by
  have Hb0 := Lib.hid (show Below w.heap.size w (w.alloc (.cells #[.int .i64 n, v] 26)) by go_grown)
  have H := Lib.hid (slayers B n v L _ (hv.below Hb0.out) hm)
  have HX := Lib.hid (heap_alloc_new w (.cells #[.int .i64 n, v] 26))
  obtain ⟨a, cap, rfl, -, -⟩ := hv
  obtain ⟨c0, c1⟩ := blk_cells2 HX.out
  have hxl := lt_of_block HX.out
  generalize lysM n L = M at *
  go_enter Try.func14, Try.ntmps14
  go_wp2_with fail
  refine (H.out).mono ?_
  rintro e w1 ⟨⟨r, rfl, p, q, rfl, -, -⟩, hb1⟩
  have Hb1 := Lib.hid (below_nx Hb0.out hb1)
  clear hb1
  go_wp2_with fail
  go_ret
  exact ⟨rfl, Hb1.out⟩
theorem ownr_formS {w : World} {base size : Nat} {e : TypeId} {v : Value} {n : Nat} {xs : List Value} (h : w.ownsRow base e size v n xs) : ∃ p c, v = .slice p n c := by
  rcases h.2 with ⟨rfl, k⟩ | ⟨g, cap, cur, rfl, _⟩
  · exact ⟨none, 0, by rw [k]⟩
  · exact ⟨_, _, rfl⟩
theorem len_take_flat (M : List (List Gt)) (j : Nat) : (M.take j).flatten.length ≤ M.flatten.length := by
  have h : M.flatten = (M.take j).flatten ++ (M.drop j).flatten := by rw [← List.flatten_append, List.take_append_drop]
  rw [h, List.length_append]
  exact Nat.le_add_right _ _
theorem flat_take {M : List (List Gt)} {j : Nat} {r : List Gt} (h : M[j]? = some r) : (M.take (j + 1)).flatten = (M.take j).flatten ++ r := by
  rw [List.take_add_one, h]
  simp
set_option maxRecDepth 100000 in
set_option maxHeartbeats 6400000 in
theorem scfrom (B C : Nat) (n : Int) (v : Value) (M : List (List Gt)) (w : World) (hv : GSM w B C v M) (hm : M.length ≤ 1048576) (hf : M.flatten.length ≤ 1048576) :
    Calls Try.prog 31 #[.int .i64 n, v] w fun e w' => (∃ r, e = .returned (.tuple #[.agg #[.int .i64 (cfN n M), r], .bool (cfB n M)]) ∧ gtE.Sl w' w.heap.size r (cfL n M)) ∧ Below w.heap.size w w' := by
  obtain ⟨i0, hi, hz0, hz1, hz2⟩ := info_parts infoG3
  unfold cfN cfL
  obtain ⟨T, hT⟩ : ∃ T, T = cfB n M := ⟨_, rfl⟩
  rw [← hT]
  have HT := Lib.hid hT
  clear hT
  have HV := Lib.hid hv.upto
  obtain ⟨a, cap, rfl, hcap, hr⟩ := hv
  clear hr
  have hsz0 : ((w.alloc (.cells #[.int .i64 0, .slice none 0 0] 26)).alloc (.cells #[.int .i64 n, .slice none 0 0] 26)).heap.size = w.heap.size + 2 := by simp
  have HR := Lib.hid (alloc_blk (.cells #[.int .i64 n, .slice none 0 0] 26) (heap_alloc_new w (.cells #[.int .i64 0, .slice none 0 0] 26)))
  have HO := Lib.hid (show ((w.alloc (.cells #[.int .i64 0, .slice none 0 0] 26)).alloc (.cells #[.int .i64 n, .slice none 0 0] 26)).heap[w.heap.size + 1]? = some (.cells #[.int .i64 n, .slice none 0 0] 26 (0, 0)) by
    simpa using heap_alloc_new (w.alloc (.cells #[.int .i64 0, .slice none 0 0] 26)) (.cells #[.int .i64 n, .slice none 0 0] 26))
  have Hb0 := Lib.hid (show Below w.heap.size w ((w.alloc (.cells #[.int .i64 0, .slice none 0 0] 26)).alloc (.cells #[.int .i64 n, .slice none 0 0] 26)) by go_grown)
  go_enter Try.func31, Try.ntmps31
  go_wp2_with fail
  go_loopg [7] M.length (fun m i wr => ∃ (j : Nat) (F : List Gt) (q : Value), m = M.length - j ∧ j ≤ M.length ∧ i = .int .i64 j ∧ Hid (F = (M.take j).flatten) ∧ Hid (∀ l ∈ M.take j, lyOk l) ∧ Hid (wr.heap[w.heap.size]? = some (.cells #[.int .i64 0, .slice none 0 0] 26 (0, 0))) ∧ Hid (wr.heap[w.heap.size + 1]? = some (.cells #[.int .i64 n, q] 26 (0, 0))) ∧ Hid (wr.ownsRow (w.heap.size + 2) 59 4 q F.length (gtE.flat F)) ∧ Hid (Below w.heap.size w wr))
  case atStart => exact ⟨0, [], .slice none 0 0, rfl, Nat.zero_le _, rfl, Lib.hid rfl, Lib.hid (fun l h => by simp at h), HR, HO, Lib.hid ⟨rfl, .inl ⟨rfl, rfl⟩⟩, Hb0⟩
  case round =>
    obtain ⟨j, F, q, rfl, hj, rfl, HF, Hok, HR1, HO1, Hown, Hb⟩ := hrel
    obtain ⟨wo, rfl⟩ : ∃ x, x = wr := ⟨_, rfl⟩
    have hs := Hb.out.size
    by_cases hlt : j < M.length
    · obtain ⟨r, hrM⟩ : ∃ r, M[j]? = some r := ⟨M[j], List.getElem?_eq_getElem hlt⟩
      have HV1 := Lib.hid (HV.out.below Hb.out)
      obtain ⟨a', cap', hv1, hv2, hv3⟩ := HV1.out
      injection hv1 with e1 _ e3
      subst e1 e3
      obtain ⟨lg, rfl, hBl, hlC, hrow⟩ := hv3 (by omega)
      obtain ⟨ra, rc, hlc, hsc⟩ := hrow.cell hrM
      have hll := hrow.lt
      have Hsl := Lib.hid hsc.sl
      have hrl : r.length ≤ 1048576 := Nat.le_trans (len_flat (List.mem_of_getElem? hrM)) hf
      have HrM := Lib.hid hrM
      have Hlc := Lib.hid hlc
      clear hv2 hv3 hrow hsc hrM
      have hjI : (0 : Int) ≤ (j : Int) := by omega
      have hjL : (j : Int) < (M.length : Int) := by omega
      go_wp2_with fail
      go_loopg [8] r.length (fun m i wr => ∃ k : Nat, m = r.length - k ∧ k ≤ r.length ∧ i = .int .i64 k ∧ Hid (∀ i x, i < k → r[i]? = some x → anyG (r.take i) x = false) ∧ Hid (Below wo.heap.size wo wr))
      case atStart => exact ⟨0, rfl, Nat.zero_le _, rfl, Lib.hid (fun i x h => absurd h (Nat.not_lt_zero _)), Below.refl _ _⟩
      case round =>
        obtain ⟨k, rfl, hk, rfl, Hin, HbI⟩ := hrel
        have hlc1 := cell_below Hlc.out HbI.out hll
        have hll1 := Nat.lt_of_lt_of_le hll HbI.out.size
        by_cases hkl : k < r.length
        · obtain ⟨x, hx⟩ : ∃ x, r[k]? = some x := ⟨r[k], List.getElem?_eq_getElem hkl⟩
          obtain ⟨p1, p2, hp1, hp2, hp3⟩ := Hsl.out
          injection hp1 with e1 _ e3
          subst e1 e3
          obtain ⟨gl, rfl, hBg, hgr⟩ := hp3 (by omega)
          have hgr1 := hgr.below HbI.out hgr.lt
          obtain ⟨d0, d1, d2, d3⟩ := GRow.cells hgr1 hx
          have hgl := hgr1.lt
          have Hv := Lib.hid (sany B _ (r.take k) x wr.drew (show gtE.Sl wr.drew B (.slice (some ⟨gl, 0, none⟩) k rc) (r.take k) from ((Enc.Sl.take Hsl.out k hk).below HbI.out.drew)) (by rw [List.length_take]; omega))
          have hS : HCf wr lg j (.slice (some ⟨gl, 0, none⟩) r.length rc) gl (k * 4) x wr := ⟨hlc1, d0, d1, d2, d3, hll1, hgl, Below.refl _ _⟩
          have hkI : (0 : Int) ≤ (k : Int) := by omega
          have hkL : (k : Int) < (r.length : Int) := by omega
          have hkC : (k : Int) ≤ (rc : Int) := by omega
          have hkM : (k : Int) ≤ (r.length : Int) := by omega
          have Hx := Lib.hid hx
          clear hgr hgr1 hp2 hp3 hx d0 d1 d2 d3
          cases hok : anyG (r.take k) x with
          | true =>
            obtain rfl : T = false := HT.out.trans (cfB_no HrM.out Hx.out hok)
            rw [hok] at Hv
            clear hok
            go_upto_region 8 with fail
            go_region_held3 (fun w' => w'.cell? ⟨lg, j, none⟩ = some (.slice (some ⟨gl, 0, none⟩) r.length rc) ∧ w'.cell? ⟨gl, (k * 4), none⟩ = some (.int .i64 x.k) ∧ w'.cell? ⟨gl, (k * 4) + 1, none⟩ = some (.int .i64 x.a) ∧ w'.cell? ⟨gl, (k * 4) + 2, none⟩ = some (.int .i64 x.b) ∧ w'.cell? ⟨gl, (k * 4) + 3, none⟩ = some (.int .i64 x.c) ∧ lg < w'.heap.size ∧ gl < w'.heap.size ∧ Below wr.heap.size wr w') (first | (show HCf wr lg j (.slice (some ⟨gl, 0, none⟩) r.length rc) gl (k * 4) x _; (with_reducible exact hS.drew)) | (show HCf wr lg j (.slice (some ⟨gl, 0, none⟩) r.length rc) gl (k * 4) x _; exact hS.drew.below hbR) | (show HCf wr lg j (.slice (some ⟨gl, 0, none⟩) r.length rc) gl (k * 4) x _; (with_reducible refine HCf.below ?_ hbR); first | assumption | exact ⟨by assumption, by assumption, by assumption, by assumption, by assumption, by assumption, by assumption, by assumption⟩))
              (first | (go_at_call 49; (with_reducible refine (Hv.out).mono ?_); rintro e wR ⟨rfl, hbR⟩))
            have Hb2 := Lib.hid (below_up HbI.out.drew hbR HbI.out.size)

            have HRz := Lib.hid (below_blk Hb2.out (lt_of_block HR1.out) HR1.out)
            have Hbz := Lib.hid (below_nx Hb.out Hb2.out)
            clear hS hlc1 hll1 hgl
            obtain ⟨r0, r1⟩ := blk_cells2 HRz.out
            have fR := fun o => free_at HRz.out o
            have hrl' := lt_of_block HRz.out
            go_wp2_with fail
            obtain ⟨k0, k1⟩ := blk_cells2 (set2_at (u0 := .int .i64 0) (u1 := .slice none 0 0) HRz.out)
            refine bodyPost_ret (v := .tuple #[.agg #[.int .i64 0, .slice none 0 0], .bool false]) (by simp only [results, Try.results31]; simp [go_sem, k0, k1]) rfl ⟨⟨_, rfl, Enc.Sl.nil⟩, ?_⟩
            have := Hbz.out
            go_grown
          | false =>
            have Hin2 := Lib.hid (show ∀ i y, i < k + 1 → r[i]? = some y → anyG (r.take i) y = false from fun i y hi hy => by
              rcases Nat.lt_succ_iff_lt_or_eq.1 hi with h | rfl
              · exact Hin.out i y h hy
              · rw [Hx.out] at hy; injection hy with hy; rw [← hy]; exact hok)
            rw [hok] at Hv
            clear hok
            go_upto_region 8 with fail
            go_region_held3 (fun w' => w'.cell? ⟨lg, j, none⟩ = some (.slice (some ⟨gl, 0, none⟩) r.length rc) ∧ w'.cell? ⟨gl, (k * 4), none⟩ = some (.int .i64 x.k) ∧ w'.cell? ⟨gl, (k * 4) + 1, none⟩ = some (.int .i64 x.a) ∧ w'.cell? ⟨gl, (k * 4) + 2, none⟩ = some (.int .i64 x.b) ∧ w'.cell? ⟨gl, (k * 4) + 3, none⟩ = some (.int .i64 x.c) ∧ lg < w'.heap.size ∧ gl < w'.heap.size ∧ Below wr.heap.size wr w') (first | (show HCf wr lg j (.slice (some ⟨gl, 0, none⟩) r.length rc) gl (k * 4) x _; (with_reducible exact hS.drew)) | (show HCf wr lg j (.slice (some ⟨gl, 0, none⟩) r.length rc) gl (k * 4) x _; exact hS.drew.below hbR) | (show HCf wr lg j (.slice (some ⟨gl, 0, none⟩) r.length rc) gl (k * 4) x _; (with_reducible refine HCf.below ?_ hbR); first | assumption | exact ⟨by assumption, by assumption, by assumption, by assumption, by assumption, by assumption, by assumption, by assumption⟩))
              (first | (go_at_call 49; (with_reducible refine (Hv.out).mono ?_); rintro e wR ⟨rfl, hbR⟩))
            have Hb2 := Lib.hid (below_up HbI.out.drew hbR HbI.out.size)

            go_wp2_with fail
            go_roundg (r.length - (k + 1))
            case measure => omega
            case rel => exact ⟨k + 1, rfl, by omega, by go_num, Hin2, Hb2⟩
        · obtain rfl : k = r.length := by omega
          have Hly := Lib.hid (show lyOk r from fun i x hx => Hin.out i x (by
            rcases Nat.lt_or_ge i r.length with h | h
            · exact h
            · rw [List.getElem?_eq_none h] at hx; cases hx) hx)
          have HR2 := Lib.hid (below_blk HbI.out (lt_of_block HR1.out) HR1.out)
          have HO2 := Lib.hid (show wr.drew.heap[w.heap.size + 1]? = some (.cells #[.int .i64 n, q] 26 (0, 0)) from below_blk HbI.out.drew (lt_of_block HO1.out) HO1.out)
          have Hown2 := Lib.hid (show wr.drew.ownsRow (w.heap.size + 2) gtE.ty gtE.n q F.length (gtE.flat F) from row_below Hown.out HbI.out.drew)
          have Hsl2 := Lib.hid (show gtE.Sl wr.drew B (.slice ra r.length rc) r from Hsl.out.below HbI.out.drew)
          have Hb2 := Lib.hid (below_nx Hb.out HbI.out)
          obtain ⟨pq, cq, rfl⟩ := ownr_formS Hown.out
          obtain ⟨o0, o1⟩ := blk_cells2 (show wr.heap[w.heap.size + 1]? = _ from HO2.out)
          have hol := lt_of_block (show wr.heap[w.heap.size + 1]? = _ from HO2.out)
          have hne2 := ownr_ne Hown2.out HO2.out (by decide)
          have hsz2 : w.heap.size + 2 ≤ wr.heap.size := by omega
          have hsum : F.length + r.length ≤ 1048576 := by
            have h := len_take_flat M (j + 1)
            rw [flat_take HrM.out, List.length_append, ← HF.out] at h
            omega
          go_upto_region 10 with fail
          go_region_law? (first
            | (refine step_append_sl (E := gtE) _ (by rfl) _ _ _ (by rfl) (w.heap.size + 2) i0 (.agg #[.int .i64 0, .int .i64 0, .int .i64 0, .int .i64 0]) 32 Try.underlying24 hi hz0 hz1 hz2 rfl (by decide) (.slice pq F.length cq) F.length (gtE.flat F) ?a1 ?a2 B (.slice ra r.length rc) r ?a3 ?a4 ?a5 ?a6 ?a7 ?_; (case a1 => go_simp); (case a2 => exact Hown2.out); (case a3 => go_simp); (case a4 => exact Hsl2.out); (case a5 => (unfold maxLen; omega)); (case a6 => omega); (case a7 => (show w.heap.size + 2 ≤ wr.heap.size; omega)); intro v3 w3 hown3 hgrow3 hat3; (obtain ⟨p3, c3, rfl⟩ := ownr_formS hown3); have hG3 : World.grownBy wr.drew w3 (Value.slice pq F.length cq).ownBlock := hgrow3; have hO3 := grown_blk hG3 HO2.out hne2; (obtain ⟨q0, q1⟩ := blk_cells2 hO3); have fO3 := fun o => free_at hO3 o))
          all_goals
            have HO3 := Lib.hid hO3
            have HG3 := Lib.hid hG3
            have Hown3 := Lib.hid hown3
            clear hO3 hG3 hown3 hgrow3 hat3
            have HR3 := Lib.hid (grown_blk HG3.out (show wr.drew.heap[w.heap.size]? = _ from HR2.out) (ownr_ne Hown2.out (show wr.drew.heap[w.heap.size]? = _ from HR2.out) (by decide)))
            have hb3 : Below w.heap.size w w3 := Hb2.out.drew.grown HG3.out (by show w.heap.size ≤ wr.heap.size; omega) (fun q hq => by have := (Hown2.out.lt q hq).1; omega)
            have HO5 := Lib.hid (show (w3.setCell ⟨w.heap.size + 1, 1, none⟩ (.slice p3 (F.length + r.length) c3)).heap[w.heap.size + 1]? = some (.cells #[.int .i64 n, .slice p3 (F.length + r.length) c3] 26 (0, 0)) from heap_set HO3.out 1 _)
            have HR5 := Lib.hid (set1_blk (o := 1) (u := .slice p3 (F.length + r.length) c3) (show w.heap.size ≠ w.heap.size + 1 by omega) HR3.out)
            have Hown5 := Lib.hid (row_set1 (g := w.heap.size + 1) (off := 1) (u := .slice p3 (F.length + r.length) c3) Hown3.out (fun k hk => by have := (Hown3.out.lt k hk).1; omega))
            have HB5 := Lib.hid (hb3.setCell (p := ⟨w.heap.size + 1, 1, none⟩) (by show w.heap.size ≤ w.heap.size + 1; omega) (.slice p3 (F.length + r.length) c3))
            have Hok5 := Lib.hid (show ∀ l ∈ M.take (j + 1), lyOk l from fun l hl => by
              rw [List.take_add_one, HrM.out] at hl
              rcases List.mem_append.1 hl with h | h
              · exact Hok.out l h
              · have h : l = r := by simpa using h
                rw [h]; exact Hly.out)
            clear hb3
            go_wp2_with fail
            go_roundg (M.length - (j + 1))
            case measure => omega
            case rel => exact ⟨j + 1, F ++ r, _, rfl, by omega, by go_num, Lib.hid (by rw [flat_take HrM.out, HF.out]), Hok5, HR5, HO5, Lib.hid (by rw [List.length_append, gtE.flat_app]; exact Hown5.out), HB5⟩
    · obtain rfl : j = M.length := by omega
      have hall := Hok.out
      have hF := HF.out
      rw [List.take_length] at hall hF
      have hff : F.length ≤ 1048576 := by rw [hF]; exact hf
      have HTT := Lib.hid (HT.out.trans ((cfB_all hall).trans (by rw [← hF] : _ = ciB n F)))
      have HFF := Lib.hid hF
      obtain ⟨pq, cq, rfl⟩ := ownr_formS Hown.out
      have hsl : gtE.Sl wo (w.heap.size + 2) (.slice pq F.length cq) F := Enc.Sl.of_own (E := gtE) Hown.out
      have Hs := Lib.hid (svalidC (w.heap.size + 2) n _ F wo hsl hff)
      have Hsl := Lib.hid hsl
      obtain ⟨o0, o1⟩ := blk_cells2 HO1.out
      have hol := lt_of_block HO1.out
      clear hall hF hsl
      cases hok : ciB n F with
      | false =>
        obtain rfl : T = false := HTT.out.trans hok
        rw [hok] at Hs
        clear hok
        go_wp2_with fail
        refine (Hs.out).mono ?_
        rintro e w1 ⟨rfl, hb1⟩
        have HRz := Lib.hid (below_blk hb1 (lt_of_block HR1.out) HR1.out)
        have Hbz := Lib.hid (below_nx Hb.out hb1)
        clear hb1 o0 o1 hol
        obtain ⟨r0, r1⟩ := blk_cells2 HRz.out
        have fR := fun o => free_at HRz.out o
        have hrl' := lt_of_block HRz.out
        go_wp2_with fail
        obtain ⟨k0, k1⟩ := blk_cells2 (set2_at (u0 := .int .i64 0) (u1 := .slice none 0 0) HRz.out)
        refine bodyPost_ret (v := .tuple #[.agg #[.int .i64 0, .slice none 0 0], .bool false]) (by simp only [results, Try.results31]; simp [go_sem, k0, k1]) rfl ⟨⟨_, rfl, Enc.Sl.nil⟩, ?_⟩
        have := Hbz.out
        go_grown
      | true =>
        obtain rfl : T = true := HTT.out.trans hok
        rw [hok] at Hs
        clear hok
        go_wp2_with fail
        refine (Hs.out).mono ?_
        rintro e w1 ⟨rfl, hb1⟩
        have HRz := Lib.hid (below_blk hb1 (lt_of_block HR1.out) HR1.out)
        have HOz := Lib.hid (below_blk hb1 (lt_of_block HO1.out) HO1.out)
        have Hslz := Lib.hid (Hsl.out.below hb1)
        have Hbz := Lib.hid (below_nx Hb.out hb1)
        clear hb1 o0 o1 hol
        obtain ⟨o0, o1⟩ := blk_cells2 HOz.out
        have hol := lt_of_block HOz.out
        obtain ⟨r0, r1⟩ := blk_cells2 HRz.out
        have fR := fun o => free_at HRz.out o
        have hrl' := lt_of_block HRz.out
        go_wp2_with fail
        obtain ⟨k0, k1⟩ := blk_cells2 (set2_at (u0 := .int .i64 n) (u1 := .slice pq F.length cq) HRz.out)
        refine bodyPost_ret (v := .tuple #[.agg #[.int .i64 n, .slice pq F.length cq], .bool true]) (by simp only [results, Try.results31]; simp [go_sem, k0, k1]) rfl ⟨⟨_, rfl, ?_⟩, ?_⟩
        · rw [← HFF.out]; exact (sl_set1 (sl_set1 Hslz.out (by omega)) (by omega)).mono (by omega)
        · have := Hbz.out
          go_grown
/-- What a list of layers holds: at most as much as the circuit. -/
theorem lysM_amps (n : Int) (L : List Gt) : (lysM n L).length ≤ L.length ∧ ampsG (lysM n L) ≤ L.length := by
  unfold lysM
  split
  · refine ⟨by simpa using layL_len L [], ?_⟩
    have h := (layL_sw L []).perm.length_eq
    simp only [List.flatten_nil, List.nil_append] at h
    have h2 : (layL [] L).flatten.length = ampsG (layL [] L) := by simp [ampsG]
    omega
  · exact ⟨Nat.zero_le _, Nat.zero_le _⟩
end Go.Proofs.Ytckfklpgnneodaa
