/- The program's RelabelCircuit. -/
import Derived.Test.YtmpafidkpangeaaGreatBaseB17
import Derived.Test.YtmpafidkpangeaaGreatBaseB18
import Derived.Test.YtmpafidkpangeaaGreatBaseB91
namespace Go.Proofs.YtmpafidkpangeaaGreat
open Go.RowKit
attribute [local irreducible] World.cell?
theorem irelG (C : Nat) (n : Int) (x : Gt) (p : List Int) (u : Value) (w : World) (hx : gtB x n = true) (hpn : (p.length : Int) = n) (hu : intE.Sl w C u p) :
    Calls Tryz.prog 73 #[(.agg #[.int .i64 x.k, .int .i64 x.a, .int .i64 x.b, .int .i64 x.c]), u] w fun e w' => e = .returned (.agg #[.int .i64 (movG p x).k, .int .i64 (movG p x).a, .int .i64 (movG p x).b, .int .i64 (movG p x).c]) ∧ Below w.heap.size w w' := by
  obtain ⟨k, a, b, c⟩ := x
  obtain ⟨-, hk, ga, gb, gc⟩ := gtB_parts hx
  simp only at hk ga gb gc
  obtain ⟨a, rfl⟩ := Int.eq_ofNat_of_zero_le ga.1
  obtain ⟨b, rfl⟩ := Int.eq_ofNat_of_zero_le gb.1
  obtain ⟨c, rfl⟩ := Int.eq_ofNat_of_zero_le gc.1
  unfold movG
  by_cases h1 : k ≤ 8
  · have h : ar k = 1 := by unfold ar; rw [if_pos (by omega)]
    have := irelG1 C k a b c p u w h (by omega) hu
    simpa [h] using this
  · by_cases h2 : k ≤ 11
    · have h : ar k = 2 := by unfold ar; rw [if_neg (by omega), if_pos (by omega)]
      have := irelG2 C k a b c p u w h (by omega) (by omega) hu
      simpa [h] using this
    · have h : ar k = 3 := by unfold ar; rw [if_neg (by omega), if_neg (by omega), if_pos (by omega)]
      have := irelG3 C k a b c p u w h (by omega) (by omega) (by omega) hu
      simpa [h] using this
set_option maxRecDepth 100000 in
set_option maxHeartbeats 12800000 in
theorem irelab (B C : Nat) (n : Int) (v u : Value) (L : List Gt) (p : List Int) (w : World) (hv : gtE.Sl w B v L) (hu : intE.Sl w C u p) (he : Ei p) (hm : L.length ≤ 1048576) (hp : p.length ≤ 1048576) (n0 : -9223372036854775808 ≤ n) (n1 : n ≤ 9223372036854775807) :
    Calls Tryz.prog 24 #[.agg #[.int .i64 n, v], u] w fun e w' => (∃ r, e = .returned (.tuple #[.agg #[.int .i64 (rlN n L p), r], .bool (rlB n L p)]) ∧ gtE.Sl w' w.heap.size r (rlL n L p)) ∧ Below w.heap.size w w' := by
  unfold rlN rlL
  obtain ⟨T, hT⟩ : ∃ T, T = rlB n L p := ⟨_, rfl⟩
  rw [← hT]
  have HT := Lib.hid (hT.trans (show rlB n L p = (ciB n L && (permB p && decide ((p.length : Int) = n))) from rfl))
  clear hT
  have HVa := Lib.hid hv
  have HVu := Lib.hid hu
  have H1 := Lib.hid (fun W (h : gtE.Sl W B v L) => ivalidC B n v L W h hm n0 n1)
  have H2 := Lib.hid (fun W (h : intE.Sl W C u p) => iisP C u p W h he hp)
  obtain ⟨pa, ca, hpa, -, hr⟩ := id hv
  obtain ⟨pu, cu, hpu, -, -⟩ := id hu
  have Hrow := Lib.hid hr
  clear hv hu hr
  subst hpa
  subst hpu
  have Hb0 := Lib.hid (show Below w.heap.size w ((w.alloc (.cells #[.int .i64 n, .slice pa L.length ca] 26)).alloc (.cells #[.int .i64 0, .slice none 0 0] 26)) by go_grown)
  have HX := Lib.hid (show ((w.alloc (.cells #[.int .i64 n, .slice pa L.length ca] 26)).alloc (.cells #[.int .i64 0, .slice none 0 0] 26)).heap[w.heap.size]? = some (.cells #[.int .i64 n, .slice pa L.length ca] 26) by exact alloc_blk _ (heap_alloc_new w _))
  have HR := Lib.hid (show ((w.alloc (.cells #[.int .i64 n, .slice pa L.length ca] 26)).alloc (.cells #[.int .i64 0, .slice none 0 0] 26)).heap[w.heap.size + 1]? = some (.cells #[.int .i64 0, .slice none 0 0] 26) by
    have h := heap_alloc_new (w.alloc (.cells #[.int .i64 n, .slice pa L.length ca] 26)) (.cells #[.int .i64 0, .slice none 0 0] 26)
    rw [show (w.alloc (.cells #[.int .i64 n, .slice pa L.length ca] 26)).heap.size = w.heap.size + 1 by simp] at h
    exact h)
  obtain ⟨c0, c1⟩ := blk_cells2 HX.out
  have hxl := lt_of_block HX.out
  by_cases hpn : (p.length : Int) = n
  · have hd : ((p.length : Int) != n) = false := by simpa using hpn
    cases h1 : ciB n L with
    | false =>
      obtain rfl : T = false := HT.out.trans (by rw [h1]; rfl)
      rw [h1] at H1
      clear h1 HT hpn
      go_enter Tryz.func24, Tryz.ntmps24
      go_wp2_with fail
      refine (H1.out _ (HVa.out.below Hb0.out)).mono ?_
      rintro e w1 ⟨rfl, hb1⟩
      have HX := Lib.hid (below_blk hb1 (lt_of_block HX.out) HX.out)
      have HR := Lib.hid (below_blk hb1 (lt_of_block HR.out) HR.out)
      have Hb0 := Lib.hid (below_nx Hb0.out hb1)
      clear hb1
      clear c0 c1 hxl
      obtain ⟨c0, c1⟩ := blk_cells2 HX.out
      have hxl := lt_of_block HX.out
      obtain ⟨r0, r1⟩ := blk_cells2 HR.out
      have fR := fun o => free_at HR.out o
      have hrl := lt_of_block HR.out
      have hs1 := Hb0.out.size
      go_wp2_with fail
      obtain ⟨k0, k1⟩ := blk_cells2 (set2_at (u0 := .int .i64 0) (u1 := .slice none 0 0) HR.out)
      refine bodyPost_ret (v := .tuple #[.agg #[.int .i64 0, .slice none 0 0], .bool false]) (by simp only [results, Tryz.results24]; simp [go_sem, k0, k1]) rfl ⟨⟨_, rfl, Enc.Sl.nil⟩, ?_⟩
      have := Hb0.out
      go_grown
    | true =>
      rw [h1] at H1
      cases h2 : permB p with
      | false =>
        obtain rfl : T = false := HT.out.trans (by rw [h1, h2]; rfl)
        rw [h2] at H2
        clear h1 h2 HT hpn
        go_enter Tryz.func24, Tryz.ntmps24
        go_wp2_with fail
        refine (H1.out _ (HVa.out.below Hb0.out)).mono ?_
        rintro e w1 ⟨rfl, hb1⟩
        have HX := Lib.hid (below_blk hb1 (lt_of_block HX.out) HX.out)
        have HR := Lib.hid (below_blk hb1 (lt_of_block HR.out) HR.out)
        have Hb0 := Lib.hid (below_nx Hb0.out hb1)
        clear hb1
        clear c0 c1 hxl
        obtain ⟨c0, c1⟩ := blk_cells2 HX.out
        have hxl := lt_of_block HX.out
        go_wp2_with fail
        refine (H2.out _ (HVu.out.below Hb0.out)).mono ?_
        rintro e w2 ⟨rfl, hb2⟩
        have HX := Lib.hid (below_blk hb2 (lt_of_block HX.out) HX.out)
        have HR := Lib.hid (below_blk hb2 (lt_of_block HR.out) HR.out)
        have Hb0 := Lib.hid (below_nx Hb0.out hb2)
        clear hb2
        clear c0 c1 hxl
        obtain ⟨c0, c1⟩ := blk_cells2 HX.out
        have hxl := lt_of_block HX.out
        obtain ⟨r0, r1⟩ := blk_cells2 HR.out
        have fR := fun o => free_at HR.out o
        have hrl := lt_of_block HR.out
        have hs1 := Hb0.out.size
        go_wp2_with fail
        obtain ⟨k0, k1⟩ := blk_cells2 (set2_at (u0 := .int .i64 0) (u1 := .slice none 0 0) HR.out)
        refine bodyPost_ret (v := .tuple #[.agg #[.int .i64 0, .slice none 0 0], .bool false]) (by simp only [results, Tryz.results24]; simp [go_sem, k0, k1]) rfl ⟨⟨_, rfl, Enc.Sl.nil⟩, ?_⟩
        have := Hb0.out
        go_grown
      | true =>
        rw [h2] at H2
        obtain rfl : T = true := HT.out.trans (by rw [h1, h2, decide_eq_true hpn]; rfl)
        clear HT
        have HG := Lib.hid (fun x (hx : x ∈ L) W (hu : intE.Sl W C (.slice pu p.length cu) p) => irelG C n x p _ W (List.all_eq_true.1 (Bool.and_eq_true_iff.1 (show (L.all (fun g => gtB g n) && (decide (1 ≤ n ∧ n ≤ 4) && decide (L.length ≤ 60))) = true from h1)).1 x hx) hpn hu)
        clear h1 h2 hpn
        go_enter Tryz.func24, Tryz.ntmps24
        go_wp2_with fail
        refine (H1.out _ (HVa.out.below Hb0.out)).mono ?_
        rintro e w1 ⟨rfl, hb1⟩
        have HX := Lib.hid (below_blk hb1 (lt_of_block HX.out) HX.out)
        have HR := Lib.hid (below_blk hb1 (lt_of_block HR.out) HR.out)
        have Hb0 := Lib.hid (below_nx Hb0.out hb1)
        clear hb1
        clear c0 c1 hxl
        obtain ⟨c0, c1⟩ := blk_cells2 HX.out
        have hxl := lt_of_block HX.out
        go_wp2_with fail
        refine (H2.out _ (HVu.out.below Hb0.out)).mono ?_
        rintro e w2 ⟨rfl, hb2⟩
        have HX := Lib.hid (below_blk hb2 (lt_of_block HX.out) HX.out)
        have HR := Lib.hid (below_blk hb2 (lt_of_block HR.out) HR.out)
        have Hb0 := Lib.hid (below_nx Hb0.out hb2)
        clear hb2
        clear c0 c1 hxl
        obtain ⟨c0, c1⟩ := blk_cells2 HX.out
        have hxl := lt_of_block HX.out
        have hs2 := Hb0.out.size
        have hrl := lt_of_block HR.out
        have hlHX := lt_of_block HX.out
        have HX := Lib.hid (alloc_blk (.cells #[.int .i64 n, .slice none 0 0] 108) HX.out)
        have hlHR := lt_of_block HR.out
        have HR := Lib.hid (alloc_blk (.cells #[.int .i64 n, .slice none 0 0] 108) HR.out)
        have HO := Lib.hid (heap_alloc_new w2 (.cells #[.int .i64 n, .slice none 0 0] 108))
        have Hb0 := Lib.hid (Hb0.out.alloc hs2 (.cells #[.int .i64 n, .slice none 0 0] 108))
        have Hown := Lib.hid (World.ownsRow_nil (w2.alloc (.cells #[.int .i64 n, .slice none 0 0] 108)) (w2.heap.size + 1) 35 4)
        have HA := Lib.hid (fun (D : Nat) (z v : Value) (k : Nat) (xs : List Value) (M : List Gt) W h1 h2 h3 h4 => iadd D w2.heap.size n v z k xs M W h1 h2 h3 h4)
        have HF := Lib.hid (fun v p k c W h => ifinished n v p k c W h)
        clear H1 H2
        go_wp2_with fail
        go_loopg [31] L.length (fun mm i wr => ∃ (j : Nat) (ov : Value), mm = L.length - j ∧ j ≤ L.length ∧ i = .int .i64 j ∧ Hid (wr.ownsRow (w2.heap.size + 1) 35 4 ov j (gtE.flat ((L.map (movG p)).take j))) ∧ Hid (wr.heap[w2.heap.size]? = some (.cells #[.int .i64 n, ov] 108 (0, 0))) ∧ Hid (wr.heap[w.heap.size]? = some (.cells #[.int .i64 n, .slice pa L.length ca] 26 (0, 0))) ∧ Hid (wr.heap[w.heap.size + 1]? = some (.cells #[.int .i64 0, .slice none 0 0] 26 (0, 0))) ∧ Hid (Below w.heap.size w wr))
        case atStart => exact ⟨0, .slice none 0 0, rfl, Nat.zero_le _, rfl, Hown, HO, HX, HR, Hb0⟩
        case round =>
          clear c0 c1 hxl
          obtain ⟨j, ov, rfl, hj, rfl, Hownr, HOr, HXr, HRr, Hb⟩ := hrel
          obtain ⟨o0, o1⟩ := blk_cells2 HOr.out
          have hol := lt_of_block HOr.out
          have hsw := Hb.out.size
          have hrl3 := lt_of_block HRr.out
          have hxl3 := lt_of_block HXr.out
          by_cases hlt : j < L.length
          · obtain ⟨x, hx⟩ : ∃ x, L[j]? = some x := ⟨L[j], List.getElem?_eq_getElem hlt⟩
            obtain ⟨g, rfl, -, hrow⟩ := Hrow.out (by omega)
            have r1 := hrow.below Hb.out hrow.lt
            obtain ⟨y0, y1, y2, y3⟩ := GRow.cells r1 hx
            have hgl := r1.lt
            have Hstep := Lib.hid (movL_at (p := p) hx)
            have Hb' := Lib.hid (show Below w.heap.size w (wr.alloc (.cells #[.int .i64 x.k, .int .i64 x.a, .int .i64 x.b, .int .i64 x.c] 35)) from Hb.out.alloc hsw _)
            have HO' := Lib.hid (alloc_blk (.cells #[.int .i64 x.k, .int .i64 x.a, .int .i64 x.b, .int .i64 x.c] 35) HOr.out)
            have HX' := Lib.hid (alloc_blk (.cells #[.int .i64 x.k, .int .i64 x.a, .int .i64 x.b, .int .i64 x.c] 35) HXr.out)
            have HR' := Lib.hid (alloc_blk (.cells #[.int .i64 x.k, .int .i64 x.a, .int .i64 x.b, .int .i64 x.c] 35) HRr.out)
            have Hown' := Lib.hid (Hownr.out.alloc (.cells #[.int .i64 x.k, .int .i64 x.a, .int .i64 x.b, .int .i64 x.c] 35))
            have Hc := Lib.hid (HG.out x (List.mem_of_getElem? hx) (wr.alloc (.cells #[.int .i64 x.k, .int .i64 x.a, .int .i64 x.b, .int .i64 x.c] 35)) (HVu.out.below Hb'.out))
            have hs' : (wr.alloc (.cells #[.int .i64 x.k, .int .i64 x.a, .int .i64 x.b, .int .i64 x.c] 35)).heap.size = wr.heap.size + 1 := by simp
            generalize movG p x = y at *
            clear r1 hrow hx
            go_wp2_with fail
            refine (Hc.out).mono ?_
            rintro e w4 ⟨rfl, hb4⟩
            have hs4 := hb4.size
            have HO4 := Lib.hid (alloc_blk (.cells #[.int .i64 y.k, .int .i64 y.a, .int .i64 y.b, .int .i64 y.c] 35) (below_blk hb4 (lt_of_block HO'.out) HO'.out))
            have HX4 := Lib.hid (alloc_blk (.cells #[.int .i64 y.k, .int .i64 y.a, .int .i64 y.b, .int .i64 y.c] 35) (below_blk hb4 (lt_of_block HX'.out) HX'.out))
            have HR4 := Lib.hid (alloc_blk (.cells #[.int .i64 y.k, .int .i64 y.a, .int .i64 y.b, .int .i64 y.c] 35) (below_blk hb4 (lt_of_block HR'.out) HR'.out))
            have Hown4 := Lib.hid ((row_below Hown'.out hb4).alloc (.cells #[.int .i64 y.k, .int .i64 y.a, .int .i64 y.b, .int .i64 y.c] 35))
            have Hb4 := Lib.hid ((below_nx Hb'.out hb4).alloc (show w.heap.size ≤ w4.heap.size by omega) (.cells #[.int .i64 y.k, .int .i64 y.a, .int .i64 y.b, .int .i64 y.c] 35))
            have Hnew := Lib.hid (show gtE.Sl (w4.alloc (.cells #[.int .i64 y.k, .int .i64 y.a, .int .i64 y.b, .int .i64 y.c] 35)) w4.heap.size (.slice (some ⟨w4.heap.size, 0, none⟩) 1 1) [y] from Enc.Sl.mk rfl (Nat.le_refl _) (Nat.le_refl _) ⟨_, heap_alloc_new w4 _, rfl⟩)
            clear hb4 y0 y1 y2 y3 hgl o0 o1 hol
            go_wp2_with fail
            refine (HA.out _ _ ov j _ [y] _ HO4.out Hown4.out Hnew.out (by simp; omega)).mono ?_
            rintro e w5 ⟨rfl, ⟨v5, hO5, hown5⟩, hb5, hz5, -⟩
            have HX5 := Lib.hid (below_blk hb5 (by omega) HX4.out)
            have HR5 := Lib.hid (below_blk hb5 (by omega) HR4.out)
            have Hb5 := Lib.hid (Hb4.out.trans (hb5.mono hs2))
            have HO5 := Lib.hid hO5
            rw [show gtE.flat [y] = gtE.fl y by simp [Enc.flat], Hstep.out] at hown5
            have Hown5 := Lib.hid hown5
            clear hown5 hO5 hb5
            go_wp2_with fail
            go_roundg (L.length - (j + 1))
            case measure => omega
            case rel => exact ⟨j + 1, v5, rfl, by omega, by go_num, Hown5, HO5, HX5, HR5, Hb5⟩
          · obtain rfl : j = L.length := by omega
            have hown := Hownr.out
            rw [List.take_of_length_le (by simp)] at hown
            obtain ⟨po, co, hov⟩ : ∃ q c, ov = .slice q L.length c := by
              rcases hown.2 with ⟨h, h'⟩ | ⟨g, cap, cur, h, _⟩
              · exact ⟨none, 0, by rw [h', h]⟩
              · exact ⟨_, _, h⟩
            subst hov
            have HownF := Lib.hid hown
            clear hown
            go_wp2_with fail
            refine (HF.out _ _ _ _ _ rfl).mono ?_
            rintro e w6 ⟨rfl, hb6⟩
            have HRF := Lib.hid (below_blk hb6 (lt_of_block HRr.out) HRr.out)
            have hsl : gtE.Sl w6 (w2.heap.size + 1) (.slice po L.length co) (L.map (movG p)) := Enc.Sl.of_own (E := gtE) (by rw [List.length_map]; exact row_below HownF.out hb6)
            have Hsl := Lib.hid hsl
            have HbF := Lib.hid (below_nx Hb.out hb6)
            clear hb6 hsl o0 o1 hol
            obtain ⟨r0, r1⟩ := blk_cells2 HRF.out
            have fR := fun o => free_at HRF.out o
            have hrl6 := lt_of_block HRF.out
            have hs6 := HbF.out.size
            go_wp2_with fail
            obtain ⟨k0, k1⟩ := blk_cells2 (set2_at (u0 := .int .i64 n) (u1 := .slice po L.length co) HRF.out)
            refine bodyPost_ret (v := .tuple #[.agg #[.int .i64 n, .slice po L.length co], .bool true]) (by simp only [results, Tryz.results24]; simp [go_sem, k0, k1]) rfl ⟨⟨_, rfl, ?_⟩, ?_⟩
            · exact (sl_set1 (sl_set1 Hsl.out (by omega)) (by omega)).mono (by omega)
            · have := HbF.out
              go_grown
  · obtain rfl : T = false := HT.out.trans (by rw [decide_eq_false hpn, Bool.and_false, Bool.and_false])
    have hd : ((p.length : Int) != n) = true := by simpa using hpn
    clear hpn HT
    go_enter Tryz.func24, Tryz.ntmps24
    obtain ⟨r0, r1⟩ := blk_cells2 HR.out
    have fR := fun o => free_at HR.out o
    have hrl := lt_of_block HR.out
    have hs1 := Hb0.out.size
    go_wp2_with fail
    obtain ⟨k0, k1⟩ := blk_cells2 (set2_at (u0 := .int .i64 0) (u1 := .slice none 0 0) HR.out)
    refine bodyPost_ret (v := .tuple #[.agg #[.int .i64 0, .slice none 0 0], .bool false]) (by simp only [results, Tryz.results24]; simp [go_sem]) rfl ⟨⟨_, rfl, Enc.Sl.nil⟩, ?_⟩
    have := Hb0.out
    go_grown
end Go.Proofs.YtmpafidkpangeaaGreat
