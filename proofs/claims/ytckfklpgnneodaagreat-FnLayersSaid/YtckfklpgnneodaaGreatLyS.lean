/- The model's CircuitLayers. -/
import Derived.Test.YtckfklpgnneodaaGreatBaseB16
import Derived.Test.YtckfklpgnneodaaGreatBaseB12
import Derived.Deep.CutBlock
import Derived.IntWalk
namespace Go.Proofs.YtckfklpgnneodaaGreat
open Go.RowKit
theorem infoSg : (Tryz.prog.info? 24).map (fun i => (i.zero, i.size, i.bytes)) = some (some (.slice none 0 0), 1, 24) := by kernel_rfl
def lysM (n : Int) (L : List Gt) : List (List Gt) := if ciB n L then layL [] L else []
theorem layL_take {L : List Gt} {j : Nat} {g : Gt} (h : L[j]? = some g) : layL [] (L.take (j + 1)) = layG (layL [] (L.take j)) g := by
  rw [List.take_add_one, h, layL_app]
  rfl
/-- A cell of an owned row of one-cell elements. -/
theorem ownr_cell {w : World} {base : Nat} {e : TypeId} {v : Value} {n : Nat} {xs : List Value} (h : w.ownsRow base e 1 v n xs) {j : Nat} {x : Value} (hx : xs[j]? = some x) :
    ∃ g cap, v = .slice (some ⟨g, 0, none⟩) n cap ∧ n ≤ cap ∧ base ≤ g ∧ g < w.heap.size ∧ w.cell? ⟨g, j, none⟩ = some x ∧ j < n ∧ ∃ cur, w.heap[g]? = some (.cells cur e (0, 0)) := by
  obtain ⟨h0, h | ⟨g, cap, cur, h1, h2, h3, h4, h5, h6, h7⟩⟩ := h
  · obtain ⟨-, rfl⟩ := h
    have : xs = [] := List.length_eq_zero_iff.1 (by omega)
    subst this
    cases hx
  · have hj : j < xs.length := by
      rcases Nat.lt_or_ge j xs.length with h' | h'
      · exact h'
      · rw [List.getElem?_eq_none h'] at hx; cases hx
    refine ⟨g, cap, h1, h4, h2, lt_of_block h3, cell_at h3 _ _ ?_, by omega, cur, h3⟩
    rw [← h7, List.getElem?_take] at hx
    split at hx
    · rw [← Array.getElem?_toList]; exact hx
    · cases hx
/-- Such a row in a world in which its block is as it was. -/
theorem ownr_keep {w w' : World} {base size : Nat} {e : TypeId} {v : Value} {n : Nat} {xs : List Value} (h : w.ownsRow base e size v n xs) (hb : ∀ k, v.ownBlock = some k → k < w.heap.size → w'.heap[k]? = w.heap[k]?) : w'.ownsRow base e size v n xs := by
  obtain ⟨h0, h | ⟨g, cap, cur, rfl, h2, h3, h4⟩⟩ := h
  · exact ⟨h0, .inl h⟩
  · exact ⟨h0, .inr ⟨g, cap, cur, rfl, h2, (hb g rfl (lt_of_block h3)).trans h3, h4⟩⟩
/-- A block of another type is not the row's. -/
theorem ownr_ne {w : World} {base size : Nat} {e t : TypeId} {v : Value} {n k : Nat} {xs : List Value} {cs : Array Value} (h : w.ownsRow base e size v n xs) (hk : w.heap[k]? = some (.cells cs t (0, 0))) (he : e ≠ t) : some k ≠ v.ownBlock := by
  obtain ⟨-, h | ⟨g, cap, cur, rfl, -, h3, -⟩⟩ := h
  · obtain ⟨rfl, -⟩ := h
    intro h; cases h
  · intro h
    have h : k = g := Option.some.inj h
    subst h
    rw [hk] at h3
    injection h3 with h3
    injection h3 with _ h3
    exact he h3.symm
/-- One cell of it written. -/
theorem ownr_set {w : World} {base g n cap : Nat} {e : TypeId} {xs : List Value} (h : w.ownsRow base e 1 (.slice (some ⟨g, 0, none⟩) n cap) n xs) (j : Nat) (u : Value) : (w.setCell ⟨g, j, none⟩ u).ownsRow base e 1 (.slice (some ⟨g, 0, none⟩) n cap) n (xs.set j u) := by
  obtain ⟨h0, h | ⟨g', cap', cur, hv, h2, h3, h4, h5, h6, h7⟩⟩ := h
  · obtain ⟨h, -⟩ := h; cases h
  · injection hv with hv1 _ hv2
    injection hv1 with hv1
    injection hv1 with hv1
    subst hv1 hv2
    refine ⟨by rw [List.length_set]; exact h0, .inr ⟨g, cap, _, rfl, h2, heap_set h3 _ _, h4, h5, ?_, ?_⟩⟩
    · rw [Array.size_setIfInBounds]; exact h6
    · rw [← h7, Array.toList_setIfInBounds, List.take_set]
theorem ownr_form {w : World} {base : Nat} {e : TypeId} {v : Value} {n : Nat} {xs : List Value} (h : w.ownsRow base e 1 v n xs) : ∃ p c, v = .slice p n c := by
  rcases h.2 with ⟨rfl, k⟩ | ⟨g, cap, cur, rfl, _⟩
  · exact ⟨none, 0, by rw [k]⟩
  · exact ⟨_, _, rfl⟩
theorem len_flat {M : List (List Gt)} : ∀ {r : List Gt}, r ∈ M → r.length ≤ M.flatten.length := by
  induction M with
  | nil => intro r h; cases h
  | cons x M ih =>
    intro r h
    rw [List.flatten_cons, List.length_append]
    rcases List.mem_cons.1 h with rfl | h
    · exact Nat.le_add_right _ _
    · exact Nat.le_trans (ih h) (Nat.le_add_left _ _)
theorem lay_row {L : List Gt} {k : Nat} {r : List Gt} (h : (layL [] L)[k]? = some r) : r.length ≤ L.length := by
  have h1 := len_flat (List.mem_of_getElem? h)
  have h2 := (layL_sw L []).perm.length_eq
  simp only [List.flatten_nil, List.nil_append] at h2
  omega
def HLy (w : World) (b : Nat) (n : Int) (v : Value) (go k : Nat) (rv : Value) (gl o : Nat) (x : Gt) (w' : World) : Prop := w'.cell? ⟨b, 0, none⟩ = some (.int .i64 n) ∧ w'.cell? ⟨b, 1, none⟩ = some v ∧ w'.cell? ⟨go, k, none⟩ = some rv ∧ w'.cell? ⟨gl, o, none⟩ = some (.int .i64 x.k) ∧ w'.cell? ⟨gl, o + 1, none⟩ = some (.int .i64 x.a) ∧ w'.cell? ⟨gl, o + 2, none⟩ = some (.int .i64 x.b) ∧ w'.cell? ⟨gl, o + 3, none⟩ = some (.int .i64 x.c) ∧ b < w'.heap.size ∧ go < w'.heap.size ∧ gl < w'.heap.size ∧ Below w.heap.size w w'
theorem HLy.drew {w w1 : World} {b go k gl o : Nat} {n : Int} {v rv : Value} {x : Gt} (h : HLy w b n v go k rv gl o x w1) : HLy w b n v go k rv gl o x w1.drew :=
  let ⟨c0, c1, c2, c3, c4, c5, c6, z0, z1, z2, l⟩ := h; ⟨c0, c1, c2, c3, c4, c5, c6, z0, z1, z2, l.drew⟩
theorem HLy.below {w w1 w2 : World} {b go k gl o : Nat} {n : Int} {v rv : Value} {x : Gt} (h : HLy w b n v go k rv gl o x w1) (hb : Below w1.heap.size w1 w2) : HLy w b n v go k rv gl o x w2 :=
  let ⟨c0, c1, c2, c3, c4, c5, c6, z0, z1, z2, l⟩ := h
  ⟨cell_below c0 hb z0, cell_below c1 hb z0, cell_below c2 hb z1, cell_below c3 hb z2, cell_below c4 hb z2, cell_below c5 hb z2, cell_below c6 hb z2, Nat.lt_of_lt_of_le z0 hb.size, Nat.lt_of_lt_of_le z1 hb.size, Nat.lt_of_lt_of_le z2 hb.size, below_up l hb l.size⟩
attribute [local irreducible] World.cell?
set_option maxRecDepth 100000 in
set_option maxHeartbeats 6400000 in
theorem slayers (B : Nat) (n : Int) (v : Value) (L : List Gt) (w : World) (hv : gtE.Sl w B v L) (hm : L.length ≤ 1048576) :
    Calls Tryz.prog 23 #[.agg #[.int .i64 n, v]] w fun e w' => (∃ r, e = .returned r ∧ GSM w' w.heap.size w'.heap.size r (lysM n L)) ∧ Below w.heap.size w w' := by
  obtain ⟨i0, hi, hz0, hz1, hz2⟩ := info_parts infoG3
  obtain ⟨iS, hiS, hzS0, hzS1, hzS2⟩ := info_parts infoSg
  obtain ⟨T, hT⟩ : ∃ T, T = lysM n L := ⟨_, rfl⟩
  rw [← hT]
  have HT := Lib.hid hT
  clear hT
  have Hv0 := Lib.hid (hv.below (show Below w.heap.size w ((w.alloc (.cells #[.int .i64 n, v] 26)).alloc (.cells #[] 24)) by go_grown))
  have Hs := Lib.hid (svalidC B n v L _ Hv0.out hm)
  have HX := Lib.hid (alloc_blk (.cells #[] 24) (heap_alloc_new w (.cells #[.int .i64 n, v] 26)))
  have HO := Lib.hid (show ((w.alloc (.cells #[.int .i64 n, v] 26)).alloc (.cells #[] 24)).heap[w.heap.size + 1]? = some (.cells #[] 24 (0, 0)) by
    simpa using heap_alloc_new (w.alloc (.cells #[.int .i64 n, v] 26)) (.cells #[] 24))
  have Hb0 := Lib.hid (show Below w.heap.size w ((w.alloc (.cells #[.int .i64 n, v] 26)).alloc (.cells #[] 24)) by go_grown)
  have hsz0 : ((w.alloc (.cells #[.int .i64 n, v] 26)).alloc (.cells #[] 24)).heap.size = w.heap.size + 2 := by simp
  obtain ⟨a, cap, rfl, hcap, hr⟩ := hv
  have Hr := Lib.hid hr
  clear hr
  obtain ⟨c0, c1⟩ := blk_cells2 HX.out
  have hxl := lt_of_block HX.out
  cases hok : ciB n L with
  | false =>
    obtain rfl : T = [] := HT.out.trans (by unfold lysM; rw [hok]; rfl)
    rw [hok] at Hs
    clear hok HT
    go_enter Tryz.func23, Tryz.ntmps23
    go_wp2_with fail
    refine (Hs.out).mono ?_
    rintro e w1 ⟨rfl, hb1⟩
    have HO1 := Lib.hid (below_blk hb1 (by omega) HO.out)
    have Hb1 := Lib.hid (below_nx Hb0.out hb1)
    clear hb1
    go_wp2_with fail
    go_ret
    exact ⟨⟨_, rfl, GSM.of_own (vs := []) (own_empty HO1.out (by omega)) RwG.nil (Nat.le_refl _)⟩, Hb1.out⟩
  | true =>
    obtain rfl : T = layL [] L := HT.out.trans (by unfold lysM; rw [hok]; rfl)
    rw [hok] at Hs
    clear hok HT
    go_enter Tryz.func23, Tryz.ntmps23
    go_wp2_with fail
    refine (Hs.out).mono ?_
    rintro e w1 ⟨rfl, hb1⟩
    have hs1 := hb1.size
    have HX1 := Lib.hid (below_blk hb1 (by omega) HX.out)
    have HO1 := Lib.hid (below_blk hb1 (by omega) HO.out)
    have Hb1 := Lib.hid (below_nx Hb0.out hb1)
    clear hb1 Hs HX HO Hb0 Hv0 c0 c1 hxl
    go_wp2_with fail
    go_loopg [3, 4] L.length (fun m out i wr => ∃ (j : Nat) (vs : List Value) (M : List (List Gt)), m = L.length - j ∧ j ≤ L.length ∧ i = .int .i64 j ∧ Hid (M = layL [] (L.take j)) ∧ Hid (wr.ownsRow (w.heap.size + 1) 24 1 out M.length vs) ∧ Hid (OwR wr (w.heap.size + 1) vs M) ∧ Hid (wr.heap[w.heap.size]? = some (.cells #[.int .i64 n, .slice a L.length cap] 26 (0, 0))) ∧ Hid (Below w.heap.size w wr))
    case atStart => exact ⟨0, [], [], rfl, Nat.zero_le _, rfl, rfl, own_empty HO1.out (by omega), OwR.nil, HX1, Hb1⟩
    case round =>
      obtain ⟨j, vs, M, rfl, hj, rfl, HM, Hown, Hrow, HX, Hb⟩ := hrel
      have hs := Hb.out.size
      obtain ⟨c0, c1⟩ := blk_cells2 HX.out
      have hxl := lt_of_block HX.out
      by_cases hlt : j < L.length
      · obtain ⟨gl, rfl, _, hrow⟩ := Hr.out (by omega)
        obtain ⟨g, hx⟩ : ∃ g, L[j]? = some g := ⟨L[j], List.getElem?_eq_getElem hlt⟩
        have hgl0 := hrow.lt
        have r1 := hrow.below Hb.out hgl0
        obtain ⟨d0, d1, d2, d3⟩ := GRow.cells r1 hx
        have hgl := r1.lt
        have Hst := Lib.hid ((layL_take hx).trans (by rw [← HM.out]))
        have hMl : M.length ≤ 1048576 := by
          have := layL_len (L.take j) []
          rw [← HM.out] at this
          simp only [List.length_nil, List.length_take] at this
          omega
        obtain ⟨po, co, rfl⟩ := ownr_form Hown.out
        have hvl := Hrow.out.1
        have Hx := Lib.hid hx
        clear hx r1
        obtain ⟨wo, rfl⟩ : ∃ x, x = wr := ⟨_, rfl⟩
        go_upto_block 2 with fail
        go_cut [5] from 20 to 37 (fun s5 wx => s5 = .int .i64 (layAt M g : Nat) ∧ Hid (Below wo.heap.size wo wx))
        case first =>
          go_wp2_with fail
          go_loopg [5] M.length (fun m at' wr => ∃ k : Nat, k = m ∧ k ≤ M.length ∧ at' = .int .i64 k ∧ Hid (atL M g k = layAt M g) ∧ Hid (Below wo.heap.size wo wr))
          case atStart => exact ⟨M.length, rfl, Nat.le_refl _, rfl, rfl, Below.refl _ _⟩
          case round =>
            obtain ⟨k, rfl, hk, rfl, Hat, HbI⟩ := hrel
            cases k with
            | zero =>
              have hlay : layAt M g = 0 := Hat.out.symm
              go_upto_region 8 with fail
              go_quiet (fail)
              go_wp2_with fail
              go_meet
              exact ⟨by rw [hlay], Lib.hid (HbI.out.trans ⟨rfl, rfl, rfl, Nat.le_refl _, fun _ _ => rfl⟩)⟩
            | succ k =>
              obtain ⟨r, hrM⟩ : ∃ r, M[k]? = some r := ⟨M[k], List.getElem?_eq_getElem hk⟩
              obtain ⟨gk, kk, hvk, hog⟩ := Hrow.out.at hrM
              obtain ⟨go, gc, ho, hgc, hgo, hgol, hoc, -⟩ := ownr_cell Hown.out hvk
              injection ho with ho1 _ ho3
              subst ho1 ho3
              have hrl : r.length ≤ 1048576 := by
                have := lay_row (HM.out ▸ hrM)
                rw [List.length_take] at this
                omega
              have hsz := HbI.out.size
              have hgd : M.getD k [] = r := by rw [List.getD_eq_getElem?_getD, hrM]; rfl
              have Hv := Lib.hid (sany (w.heap.size + 1) _ r g wr.drew (show gtE.Sl wr.drew _ _ r from hog.sl.below HbI.out.drew) hrl)
              have hS : HLy wr w.heap.size n (.slice (some ⟨gl, 0, none⟩) L.length cap) go k (.slice (some ⟨gk, 0, none⟩) r.length kk) gl (j * 4) g wr := ⟨cell_below c0 HbI.out hxl, cell_below c1 HbI.out hxl, cell_below hoc HbI.out hgol, cell_below d0 HbI.out hgl, cell_below d1 HbI.out hgl, cell_below d2 HbI.out hgl, cell_below d3 HbI.out hgl, by omega, by omega, by omega, Below.refl _ _⟩
              have Hat2 := Lib.hid (show (if anyG r g then k + 1 else atL M g k) = layAt M g by rw [← hgd]; exact Hat.out)
              obtain ⟨K, hK⟩ : ∃ K : Int, K = ((k + 1 : Nat) : Int) := ⟨_, rfl⟩
              rw [← hK]
              have HK := Lib.hid hK
              have hk1 : IntKind.i64.wrap (K - 1) = (k : Int) := by rw [hK, IntWalk.i64_in _ (by omega)]; omega
              have hkp : (0 : Int) ≤ (k : Int) := by omega
              have hkl : (k : Int) < (M.length : Int) := by omega
              have hk0 : decide (0 < K) = true := decide_eq_true (by omega)
              clear hgd hvk hog hrM hgo Hat hK c0 c1 d0 d1 d2 d3 hoc
              cases hok : anyG r g with
              | true =>
                rw [hok] at Hv Hat2
                clear hok
                go_upto_region 8 with fail
                go_region_held3 (fun w' => w'.cell? ⟨w.heap.size, 0, none⟩ = some (.int .i64 n) ∧ w'.cell? ⟨w.heap.size, 1, none⟩ = some (.slice (some ⟨gl, 0, none⟩) L.length cap) ∧ w'.cell? ⟨go, k, none⟩ = some (.slice (some ⟨gk, 0, none⟩) r.length kk) ∧ w'.cell? ⟨gl, (j * 4), none⟩ = some (.int .i64 g.k) ∧ w'.cell? ⟨gl, (j * 4) + 1, none⟩ = some (.int .i64 g.a) ∧ w'.cell? ⟨gl, (j * 4) + 2, none⟩ = some (.int .i64 g.b) ∧ w'.cell? ⟨gl, (j * 4) + 3, none⟩ = some (.int .i64 g.c) ∧ w.heap.size < w'.heap.size ∧ go < w'.heap.size ∧ gl < w'.heap.size ∧ Below wr.heap.size wr w') (first | (show HLy wr w.heap.size n (.slice (some ⟨gl, 0, none⟩) L.length cap) go k (.slice (some ⟨gk, 0, none⟩) r.length kk) gl (j * 4) g _; (with_reducible exact hS.drew)) | (show HLy wr w.heap.size n (.slice (some ⟨gl, 0, none⟩) L.length cap) go k (.slice (some ⟨gk, 0, none⟩) r.length kk) gl (j * 4) g _; exact hS.drew.below hbR) | (show HLy wr w.heap.size n (.slice (some ⟨gl, 0, none⟩) L.length cap) go k (.slice (some ⟨gk, 0, none⟩) r.length kk) gl (j * 4) g _; (with_reducible refine HLy.below ?_ hbR); first | assumption | exact ⟨by assumption, by assumption, by assumption, by assumption, by assumption, by assumption, by assumption, by assumption, by assumption, by assumption, by assumption⟩))
                  (first | (go_at_call 39; (with_reducible refine (Hv.out).mono ?_); rintro e wR ⟨rfl, hbR⟩))
                have Hb2 := Lib.hid (below_up HbI.out.drew hbR HbI.out.size)

                go_wp2_with fail
                go_meet
                exact ⟨by rw [HK.out, ← Hat2.out]; rfl, Hb2⟩
              | false =>
                rw [hok] at Hv Hat2
                clear hok
                go_upto_region 8 with fail
                go_region_held3 (fun w' => w'.cell? ⟨w.heap.size, 0, none⟩ = some (.int .i64 n) ∧ w'.cell? ⟨w.heap.size, 1, none⟩ = some (.slice (some ⟨gl, 0, none⟩) L.length cap) ∧ w'.cell? ⟨go, k, none⟩ = some (.slice (some ⟨gk, 0, none⟩) r.length kk) ∧ w'.cell? ⟨gl, (j * 4), none⟩ = some (.int .i64 g.k) ∧ w'.cell? ⟨gl, (j * 4) + 1, none⟩ = some (.int .i64 g.a) ∧ w'.cell? ⟨gl, (j * 4) + 2, none⟩ = some (.int .i64 g.b) ∧ w'.cell? ⟨gl, (j * 4) + 3, none⟩ = some (.int .i64 g.c) ∧ w.heap.size < w'.heap.size ∧ go < w'.heap.size ∧ gl < w'.heap.size ∧ Below wr.heap.size wr w') (first | (show HLy wr w.heap.size n (.slice (some ⟨gl, 0, none⟩) L.length cap) go k (.slice (some ⟨gk, 0, none⟩) r.length kk) gl (j * 4) g _; (with_reducible exact hS.drew)) | (show HLy wr w.heap.size n (.slice (some ⟨gl, 0, none⟩) L.length cap) go k (.slice (some ⟨gk, 0, none⟩) r.length kk) gl (j * 4) g _; exact hS.drew.below hbR) | (show HLy wr w.heap.size n (.slice (some ⟨gl, 0, none⟩) L.length cap) go k (.slice (some ⟨gk, 0, none⟩) r.length kk) gl (j * 4) g _; (with_reducible refine HLy.below ?_ hbR); first | assumption | exact ⟨by assumption, by assumption, by assumption, by assumption, by assumption, by assumption, by assumption, by assumption, by assumption, by assumption, by assumption⟩))
                  (first | (go_at_call 39; (with_reducible refine (Hv.out).mono ?_); rintro e wR ⟨rfl, hbR⟩))
                have Hb2 := Lib.hid (below_up HbI.out.drew hbR HbI.out.size)

                go_wp2_with fail
                go_roundg k
                case measure => omega
                case rel => exact ⟨k, rfl, by omega, rfl, Hat2, Hb2⟩
        case rest =>
          obtain ⟨rfl, HbC⟩ := hcut
          obtain ⟨wd, rfl⟩ : ∃ x, x = wc := ⟨_, rfl⟩
          have Hb2 := Lib.hid (below_nx Hb.out HbC.out)
          have Hown2 := Lib.hid (row_below Hown.out HbC.out)
          have Hrow2 := Lib.hid (Hrow.out.below HbC.out)
          have HX2 := Lib.hid (below_blk HbC.out hxl HX.out)
          have hs2 := Hb2.out.size
          have hp := layAt_le M g
          clear c0 c1 d0 d1 d2 d3 hxl hs
          go_upto_if 41 with fail
          go_cut [3] from 41 to 45 (fun s3 wy => ∃ (vs2 : List Value) (M2 : List (List Gt)) (r : List Gt), Hid (M2[layAt M g]? = some r) ∧ Hid (M2.set (layAt M g) (r ++ [g]) = layG M g) ∧ M2.length ≤ 1048577 ∧ Hid (wy.ownsRow (w.heap.size + 1) 24 1 s3 M2.length vs2) ∧ Hid (OwR wy (w.heap.size + 1) vs2 M2) ∧ Hid (wy.heap[w.heap.size]? = some (.cells #[.int .i64 n, .slice (some ⟨gl, 0, none⟩) L.length cap] 26 (0, 0))) ∧ Hid (Below w.heap.size w wy))
          case first =>
            by_cases he : layAt M g = M.length
            · have Hr2 := Lib.hid (show (M ++ [[]])[layAt M g]? = some [] by rw [he, List.getElem?_append_right (Nat.le_refl _), Nat.sub_self]; rfl)
              have Hset := Lib.hid (show (M ++ [[]]).set (layAt M g) ([] ++ [g]) = layG M g by unfold layG; rw [if_pos he, he]; simp)
              generalize layAt M g = p at *
              subst he
              have hzd : (wd.alloc (.cells #[] 44)).heap.size = wd.heap.size + 1 := by simp
              have Hrow3 := Lib.hid (OwR.snoc Hrow2.out (w' := (wd.alloc (.cells #[] 44)).alloc (.cells #[.slice (some ⟨wd.heap.size, 0, none⟩) 0 0] 24)) (OwG.empty (alloc_blk _ (heap_alloc_new wd (.cells #[] 44))) (lt_of_block HX2.out)) (Nat.le_refl _) (fun b hb _ => (Below.heap_alloc _ _ _ (by omega)).trans (Below.heap_alloc _ _ _ hb)))
              go_wp2_with (first
                | (at_builtin; refine wpList_append_own _ rfl _ _ 28 rfl (w.heap.size + 1) 24 iS (.slice none 0 0) 1 24 Tryz.underlying28 hiS hzS0 hzS1 hzS2 rfl (by decide) _ _ _ rfl ((Hown2.out.alloc _).alloc _) ⟨wd.heap.size + 1, 0, none⟩ 1 1 [.slice (some ⟨wd.heap.size, 0, none⟩) 0 0] rfl rfl ?d2 (by intro u hu; simp at hu; subst hu; rfl) ?d3 ?d4 ?d5 ?_))
              case d2 => rw [← hzd]; exact slice_newG _ _ _
              case d3 => unfold maxLen; omega
              case d4 => omega
              case d5 => first | omega | (simp; omega)
              intro v' w5 hown' hgrow _
              have hl2 : (M ++ [[]]).length = M.length + 1 := by simp
              have HB5 := Lib.hid (((Hb2.out.alloc hs2 (.cells #[] 44)).alloc (by rw [hzd]; omega) (.cells #[.slice (some ⟨wd.heap.size, 0, none⟩) 0 0] 24)).grown hgrow (by simp; omega) (fun q hq => by have := (Hown2.out.lt q hq).1; omega))
              have HX5 := Lib.hid (grown_blk hgrow (alloc_blk _ (alloc_blk _ HX2.out)) (ownr_ne Hown2.out HX2.out (by decide)))
              have Hrow5 := Lib.hid (Hrow3.out.keep (w' := w5) fun k _ hk hcs => by obtain ⟨cs, hcs⟩ := hcs; exact hgrow.block k hk (ownr_ne ((Hown2.out.alloc _).alloc _) hcs (by decide)))
              have Hown5 := Lib.hid hown'
              clear hown' hgrow Hrow3
              go_wp2_with fail
              go_meet
              exact ⟨_, M ++ [[]], [], Hr2, Hset, by omega, Lib.hid (by rw [hl2]; exact Hown5.out), Hrow5, HX5, HB5⟩
            · obtain ⟨r, hr⟩ : ∃ r, M[layAt M g]? = some r := ⟨M[layAt M g]'(by omega), List.getElem?_eq_getElem _⟩
              have Hset := Lib.hid (show M.set (layAt M g) (r ++ [g]) = layG M g by unfold layG; rw [if_neg he, List.getD_eq_getElem?_getD, hr]; rfl)
              have Hr2 := Lib.hid hr
              have hdf : decide (((layAt M g : Nat) : Int) = (M.length : Int)) = false := decide_eq_false (by omega)
              clear hr
              go_wp2_with fail
              go_meet
              exact ⟨vs, M, r, Hr2, Hset, by omega, Hown2, Hrow2, HX2, Hb2⟩
          case rest =>
            obtain ⟨vs2, M2, r, Hr2, Hset, hM2, Hown3, Hrow3, HX3, Hb3⟩ := hcut
            obtain ⟨we, rfl⟩ : ∃ x, x = wc := ⟨_, rfl⟩
            obtain ⟨gp, kp, hvp, hog⟩ := Hrow3.out.at Hr2.out
            obtain ⟨go, gc, rfl, hgc, hgo, hgol, hoc, hpl, curo, HGo⟩ := ownr_cell Hown3.out hvp
            obtain ⟨c0, c1⟩ := blk_cells2 HX3.out
            have hxl := lt_of_block HX3.out
            have hrow3 := hrow.below Hb3.out hgl0
            obtain ⟨d0, d1, d2, d3⟩ := GRow.cells hrow3 Hx.out
            have hgl3 := hrow3.lt
            have fO := fun o => free_at HGo o
            have hpI : (0 : Int) ≤ ((layAt M g : Nat) : Int) := by omega
            have hpL : ((layAt M g : Nat) : Int) < (M2.length : Int) := by omega
            have hjI : (0 : Int) ≤ (j : Int) := by omega
            have hjL : (j : Int) < (L.length : Int) := by omega
            have hrl : r.length ≤ 1048576 := by
              have h1 : (layG M g)[layAt M g]? = some (r ++ [g]) := by rw [← Hset.out]; exact List.getElem?_set_self hpl
              rw [← Hst.out] at h1
              have h2 := lay_row h1
              rw [List.length_append, List.length_take] at h2
              omega
            have hne : go ≠ gp := by
              obtain ⟨-, -, -, cur, h4, -⟩ := hog
              intro h
              subst h
              rw [HGo] at h4
              injection h4 with h4
              injection h4 with _ h4
              exact absurd h4 (by decide)
            have HSl := Lib.hid (show gtE.Sl (we.alloc (.cells #[.int .i64 g.k, .int .i64 g.a, .int .i64 g.b, .int .i64 g.c] 44)) we.heap.size (.slice (some ⟨we.heap.size, 0, none⟩) 1 1) [g] from ⟨_, _, rfl, Nat.le_refl _, fun _ => ⟨we.heap.size, rfl, Nat.le_refl _, _, heap_alloc_new we _, rfl⟩⟩)
            have Hog := Lib.hid hog
            have HOw := Lib.hid (show (we.alloc (.cells #[.int .i64 g.k, .int .i64 g.a, .int .i64 g.b, .int .i64 g.c] 44)).ownsRow (w.heap.size + 1) gtE.ty gtE.n (.slice (some ⟨gp, 0, none⟩) r.length kp) r.length (gtE.flat r) from hog.own.alloc _)
            have HO2 := Lib.hid (show (we.alloc (.cells #[.int .i64 g.k, .int .i64 g.a, .int .i64 g.b, .int .i64 g.c] 44)).drew.heap[go]? = some (.cells curo 24 (0, 0)) from alloc_blk (.cells #[.int .i64 g.k, .int .i64 g.a, .int .i64 g.b, .int .i64 g.c] 44) HGo)
            have hne2 : some go ≠ (Value.slice (some ⟨gp, 0, none⟩) r.length kp).ownBlock := fun h => hne (Option.some.inj h)
            go_upto_region 12 with fail
            go_region_law? (first
              | (refine step_append_sl (E := gtE) _ (by rfl) _ _ _ (by rfl) (w.heap.size + 1) i0 (.agg #[.int .i64 0, .int .i64 0, .int .i64 0, .int .i64 0]) 32 Tryz.underlying24 hi hz0 hz1 hz2 rfl (by decide) (.slice (some ⟨gp, 0, none⟩) r.length kp) r.length (gtE.flat r) ?a1 ?a2 we.heap.size (.slice (some ⟨we.heap.size, 0, none⟩) 1 1) [g] ?a3 ?a4 ?a5 ?a6 ?a7 ?_; (case a1 => go_simp); (case a2 => exact HOw.out); (case a3 => go_simp); (case a4 => exact HSl.out); (case a5 => (unfold maxLen; (try simp only [List.length_singleton]); omega)); (case a6 => (simp only [List.length_singleton]; omega)); (case a7 => (first | omega | (simp; done) | (simp; omega))); intro v3 w3 hown3 hgrow3 hat3; (obtain ⟨gq, kq, rfl, hq3⟩ := OwG.of_own (B := w.heap.size + 1) (r := r ++ [g]) (by rw [List.length_append, gtE.flat_app]; exact hown3) (by simp)); have hG3 : World.grownBy (we.alloc (.cells #[.int .i64 g.k, .int .i64 g.a, .int .i64 g.b, .int .i64 g.c] 44)).drew w3 (Value.slice (some ⟨gp, 0, none⟩) r.length kp).ownBlock := hgrow3; have hO3 := grown_blk hG3 HO2.out hne2; have hoc3 : w3.cell? ⟨go, layAt M g, none⟩ = some (.slice (some ⟨gp, 0, none⟩) r.length kp) := (World.cell?_of_block (w := we) (a := ⟨go, layAt M g, none⟩) (hO3.trans HGo.symm)).trans hoc; have fO3 := fun o => free_at hO3 o))
            all_goals
              have Hq3 := Lib.hid hq3
              have Hat3 := Lib.hid (show gq = gp ∨ we.heap.size ≤ gq by
                rcases hat3 with h | h
                · exact .inl (Option.some.inj h)
                · right
                  have h : gq = (we.alloc (.cells #[.int .i64 g.k, .int .i64 g.a, .int .i64 g.b, .int .i64 g.c] 44)).heap.size := Option.some.inj h
                  simp only [size_alloc1] at h
                  omega)
              have HG3 := Lib.hid hG3
              have HO3 := Lib.hid hO3
              clear hown3 hgrow3 hG3 hat3 hO3 hq3 fO3 fO
              have hown4 := ownr_keep (w' := w3) Hown3.out (fun k hk _ => by rw [← (show go = k from Option.some.inj hk)]; exact HO3.out.trans HGo.symm)
              have hHB : ∀ b, b < we.heap.size → b ≠ gp → w3.heap[b]? = we.heap[b]? := fun b hb hn => (HG3.out.block b (by show b < (we.alloc (.cells #[.int .i64 g.k, .int .i64 g.a, .int .i64 g.b, .int .i64 g.c] 44)).heap.size; simp only [size_alloc1]; omega) (fun h => hn (Option.some.inj h))).trans (Below.heap_alloc we _ b hb)
              have hrow4 := Hrow3.out.turn (w' := w3) Hr2.out hvp Hq3.out Hat3.out hHB
              have hX4 : w3.heap[w.heap.size]? = some (.cells #[.int .i64 n, .slice (some ⟨gl, 0, none⟩) L.length cap] 26 (0, 0)) := (hHB _ hxl (by have := Hog.out.1; omega)).trans HX3.out
              have hB4 : Below w.heap.size w w3 := by
                have h1 := (Hb3.out.alloc Hb3.out.size (.cells #[.int .i64 g.k, .int .i64 g.a, .int .i64 g.b, .int .i64 g.c] 44)).drew
                exact h1.grown HG3.out (by show w.heap.size ≤ (we.alloc (.cells #[.int .i64 g.k, .int .i64 g.a, .int .i64 g.b, .int .i64 g.c] 44)).heap.size; simp only [size_alloc1]; omega) (fun q hq => by have h : gp = q := Option.some.inj hq; have := Hog.out.1; omega)
              have HX5 := Lib.hid (set1_blk (o := layAt M g) (u := .slice (some ⟨gq, 0, none⟩) (r ++ [g]).length kq) (show w.heap.size ≠ go by omega) hX4)
              have HB5 := Lib.hid (hB4.setCell (p := ⟨go, layAt M g, none⟩) (by show w.heap.size ≤ go; omega) (.slice (some ⟨gq, 0, none⟩) (r ++ [g]).length kq))
              have Hown5 := Lib.hid (ownr_set hown4 (layAt M g) (.slice (some ⟨gq, 0, none⟩) (r ++ [g]).length kq))
              have Hrow5 := Lib.hid (hrow4.keep (w' := w3.setCell ⟨go, layAt M g, none⟩ (.slice (some ⟨gq, 0, none⟩) (r ++ [g]).length kq)) fun k _ _ hcs => by
                obtain ⟨cs, hcs⟩ := hcs
                refine Below.heap_setCell _ _ _ _ ?_
                show k ≠ go
                intro h
                rw [h, HO3.out] at hcs
                injection hcs with hcs
                injection hcs with _ hcs
                exact absurd hcs (by decide))
              have hl2 : (M2.set (layAt M g) (r ++ [g])).length = M2.length := List.length_set
              have hML := Lib.hid ((Hset.out).trans Hst.out.symm)
              have hl1 : (r ++ [g]).length = r.length + 1 := by simp
              rw [hl1] at HX5 HB5 Hown5 Hrow5
              clear hown4 hHB hrow4 hX4 hB4 hl1
              go_wp2_with fail
              go_roundg (L.length - (j + 1))
              case measure => omega
              case rel => exact ⟨j + 1, _, M2.set (layAt M g) (r ++ [g]), rfl, by omega, by go_num, hML, Lib.hid (by rw [hl2]; exact Hown5.out), Hrow5, HX5, HB5⟩
      · obtain rfl : j = L.length := by omega
        have hM := HM.out
        rw [List.take_length] at hM
        subst hM
        have hr := Hrow.out.rwg
        have hd := GSM.of_own Hown.out hr (Nat.le_refl _)
        have Hd := Lib.hid (hd.mono (D := w.heap.size) (Nat.le_succ _) (Nat.le_refl _))
        clear hr hd
        go_wp2_with fail
        go_ret
        exact ⟨⟨_, rfl, Hd.out⟩, Hb.out⟩
end Go.Proofs.YtckfklpgnneodaaGreat
