/- The program's ParseCircuit. -/
import Derived.Test.YtbnkanlebjpkfaaDoorTcLg
import Derived.Test.YtbnkanlebjpkfaaDoorTcLp
import Derived.Test.YtbnkanlebjpkfaaDoorB17
import Derived.Test.YtbnkanlebjpkfaaDoorB10
import Derived.Test.YtbnkanlebjpkfaaDoorTcR
namespace Go.Proofs.YtbnkanlebjpkfaaDoor
open Go.RowKit Go.Lib
theorem pc_no_first {s : ByteArray} (h : hnB (lnC s 0) = false) : pcB s = false ∧ pcV s = (0, []) := by
  unfold hnB at h
  cases h1 : hdB (lnC s 0) with
  | false => exact pc_no_word h1
  | true => rw [h1, Bool.true_and] at h; exact pc_no_head h
theorem pc_fin2 {s : ByteArray} {m : Nat} (hm : (pcs 10 s).length = m + 1) (hh : hnB (lnC s 0) = true) (hall : ∀ i, i < m → pgB (lnC s (i + 1)) = true) :
    (ciB (hnV (lnC s 0)) (gls s m) = true → pcB s = true ∧ pcV s = (hnV (lnC s 0), gls s m)) ∧ (ciB (hnV (lnC s 0)) (gls s m) = false → pcB s = false ∧ pcV s = (0, [])) := by
  unfold hnB at hh
  rw [Bool.and_eq_true] at hh
  have h := pc_fin hm hh.1 hh.2 hall
  rw [show hnV (lnC s 0) = nbV (hdR (lnC s 0)) by unfold hnV; rw [if_pos hh.1]]
  exact h
attribute [local irreducible] World.cell?
set_option maxRecDepth 100000 in
set_option maxHeartbeats 12800000 in
theorem iparC (s : ByteArray) (w : World) (hs : s.size ≤ 1048576) (hL : LW w) :
    Calls Tryd.prog 20 #[.string s] w fun e w' => (∃ v, e = .returned (.tuple #[.agg #[.int .i64 (pcV s).1, v], .bool (pcB s)]) ∧ gtE.Sl w' w.heap.size v (pcV s).2) ∧ Below w.heap.size w w' := by
  have HL := Lib.hid hL
  have HR := Lib.hid (heap_alloc_new w (.cells #[.int .i64 0, .slice none 0 0] 39))
  have Hb0 := Lib.hid (show Below w.heap.size w (w.alloc (.cells #[.int .i64 0, .slice none 0 0] 39)) by go_grown)
  have Hsp := Lib.hid (fun W (h : HasMax W) => show Calls Tryd.prog 37 #[.string s, .int .u8 ((10 : UInt8).toNat : Int)] W fun e w' => (∃ b, e = .returned (.slice (some ⟨b, 0, none⟩) (pcs 10 s).length (pcs 10 s).length) ∧ W.heap.size ≤ b ∧ StrRow w' b (pcs 10 s).length (lnC s)) ∧ Below W.heap.size W w' from isplit_any s 10 W hs h)
  have hP := pcs_len_le 10 s
  have Hhd := Lib.hid (fun W (h : LW W) => ihead (lnC s 0) W (line_small hs 0) h.1 h.2.1)
  have hnb := hn_bounds (lnC s 0)
  have Hpg := Lib.hid (fun j W (h : LW W) => iparG (lnC s j) W (line_small hs j) h)
  have Hnf := Lib.hid (@pc_no_first s)
  have Hnn := Lib.hid (fun j => @pc_no_line s j)
  have Hfin := Lib.hid (fun m => @pc_fin2 s m)
  have Hsu := Lib.hid (fun m => gls_succ s m)
  have Hgl := Lib.hid (fun m => gls_len s m)
  have hn0 : gls s 0 = [] := rfl
  obtain ⟨m, hm⟩ : ∃ m, (pcs 10 s).length = m + 1 := ⟨(pcs 10 s).length - 1, by have := pcs_len 10 s; omega⟩
  rw [hm] at Hsp Hnn Hfin hP
  have Hf0 := Lib.hid (Hfin.out m rfl)
  have hm2 : m ≤ 1048576 := by omega
  clear hL hs hm hP Hfin
  generalize pcV s = PV at *
  generalize pcB s = PB at *
  generalize lnC s = f at *
  generalize gls s = gl at *
  generalize hnV (f 0) = n at *
  obtain ⟨hb, hhb⟩ : ∃ hb, hb = hnB (f 0) := ⟨_, rfl⟩
  rw [← hhb] at Hhd Hnf Hf0
  clear hhb
  go_enter Tryd.func20, Tryd.ntmps20
  go_wp2_with fail
  refine (Hsp.out _ (HL.out.2.2.1.below Hb0.out)).mono ?_
  rintro e w1 ⟨⟨b, rfl, hbl, hrow⟩, hb1⟩
  have HR1 := Lib.hid (below_blk hb1 (lt_of_block HR.out) HR.out)
  have Hb1 := Lib.hid (below_nx Hb0.out hb1)
  have hbl : w.heap.size + 1 ≤ b := by simpa using hbl
  obtain ⟨cs, hrb, hcs⟩ := hrow
  have Hcs := Lib.hid hcs
  have Hr1 := Lib.hid hrb
  clear hb1 hrb hcs
  have hx := cell_at Hr1.out 0 _ (Hcs.out 0 (by omega))
  have hbl1 := lt_of_block Hr1.out
  go_wp2_with fail
  refine (Hhd.out _ (HL.out.below Hb1.out)).mono ?_
  rintro e w3 ⟨rfl, hb3⟩
  clear hx
  have HR3 := Lib.hid (below_blk hb3 (lt_of_block HR1.out) HR1.out)
  have Hr3 := Lib.hid (below_blk hb3 (lt_of_block Hr1.out) Hr1.out)
  have Hb3 := Lib.hid (below_nx Hb1.out hb3)
  clear hb3 HR1 Hr1 Hb1 hbl1 Hsp Hhd HR Hb0
  have hbl3 := lt_of_block Hr3.out
  have hz3 := lt_of_block HR3.out
  cases hb with
  | false =>
    obtain ⟨rfl, rfl⟩ := Hnf.out rfl
    obtain ⟨r0, r1⟩ := blk_cells2 HR3.out
    have fR := fun o => free_at HR3.out o
    go_wp2_with fail
    obtain ⟨k0, k1⟩ := blk_cells2 (set2R (u0 := .int .i64 0) (u1 := .slice none 0 0) HR3.out)
    refine bodyPost_ret (v := .tuple #[.agg #[.int .i64 0, .slice none 0 0], .bool false]) (by simp only [results, Tryd.results20]; simp [go_sem, k0, k1]) rfl ⟨⟨.slice none 0 0, rfl, Enc.Sl.nil⟩, ?_⟩
    have := Hb3.out
    go_grown
  | true =>
    have Hf1 := Lib.hid (Hf0.out rfl)
    have HR4 := Lib.hid (alloc_blk (.cells #[.int .i64 n, .slice none 0 0] 65) HR3.out)
    have Hr4 := Lib.hid (alloc_blk (.cells #[.int .i64 n, .slice none 0 0] 65) Hr3.out)
    have HO4 := Lib.hid (heap_alloc_new w3 (.cells #[.int .i64 n, .slice none 0 0] 65))
    have Hb4 := Lib.hid (Hb3.out.alloc Hb3.out.size (.cells #[.int .i64 n, .slice none 0 0] 65))
    have Hown4 := Lib.hid (World.ownsRow_nil (w3.alloc (.cells #[.int .i64 n, .slice none 0 0] 65)) (w3.heap.size + 1) 25 4)
    clear Hf0 Hnf
    by_cases h0 : m = 0
    · subst h0
      go_wp2_with fail
      refine wp_loop_rounds 1 ?_
      rw [rounds_succ]
      have HR := Lib.hid HR4.out
      have HO := Lib.hid HO4.out
      have Hb := Lib.hid Hb4.out
      have hfin := Hf1.out (fun i hi => absurd hi (by omega))
      have HOw := Lib.hid (show (w3.alloc (.cells #[.int .i64 n, .slice none 0 0] 65)).ownsRow (w3.heap.size + 1) 25 4 (.slice none 0 0) 0 (gtE.flat (gl 0)) by rw [hn0]; exact Hown4.out)
      have Hgl0 := Hgl.out 0
      obtain ⟨GL, hGL⟩ : ∃ GL, GL = gl 0 := ⟨_, rfl⟩
      rw [← hGL] at HOw hfin Hgl0
      clear hGL hn0 Hf1 HR4 HO4 Hb4 Hown4 Hgl
      obtain ⟨wr, hwr⟩ : ∃ wr, wr = w3.alloc (.cells #[.int .i64 n, .slice none 0 0] 65) := ⟨_, rfl⟩
      rw [← hwr] at HR HO Hb HOw ⊢
      clear hwr
      obtain ⟨ov, hov⟩ : ∃ ov : Value, ov = .slice none 0 0 := ⟨_, rfl⟩
      rw [← hov] at HO HOw
      have hgl := Hgl0
      obtain ⟨po, co, hov2⟩ : ∃ q c, ov = .slice q 0 c := by
        rcases HOw.out.2 with ⟨h, h'⟩ | ⟨g, cap, cur, h, _⟩
        · exact ⟨none, 0, by rw [h', h]⟩
        · exact ⟨_, _, h⟩
      clear hov; subst hov2
      have Hfin := Lib.hid hfin
      clear hfin
      obtain ⟨o0, o1⟩ := blk_cells2 HO.out
      have hol := lt_of_block HO.out
      have HFi := Lib.hid (ifinished n (.slice po 0 co) po 0 co wr rfl)
      go_wp2_with fail
      refine HFi.out.mono ?_
      rintro e w6 ⟨rfl, hb6⟩
      have HR6 := Lib.hid (alloc_blk (.cells #[.int .i64 n, .slice po 0 co] 39) (below_blk hb6 (lt_of_block HR.out) HR.out))
      have HG6 := Lib.hid (heap_alloc_new w6 (.cells #[.int .i64 n, .slice po 0 co] 39))
      have hsl : gtE.Sl w6 (w3.heap.size + 1) (.slice po 0 co) GL := Enc.Sl.of_own (E := gtE) (by rw [hgl]; exact row_belowS HOw.out hb6)
      have hb7 := below_nx Hb.out hb6
      have hs7 := hb7.size
      have hz6 : w.heap.size < w6.heap.size := lt_of_block (below_blk hb6 (lt_of_block HR.out) HR.out)
      have Hb7 := Lib.hid (hb7.alloc hs7 (.cells #[.int .i64 n, .slice po 0 co] 39))
      have Hs7 := Lib.hid (hsl.below ((Below.refl w6.heap.size w6).alloc (Nat.le_refl _) (.cells #[.int .i64 n, .slice po 0 co] 39)))
      clear hb6 hb7 hsl o0 o1 hol HO HOw HR Hb HFi
      obtain ⟨y0, y1⟩ := blk_cells2 HG6.out
      have fG := fun o => free_at HG6.out o
      have hgl6 := lt_of_block HG6.out
      have Hv := Lib.hid (ivalidC (w3.heap.size + 1) n (.slice po 0 co) GL _ Hs7.out (by rw [hgl]; omega) (by omega) (by omega))
      go_wp2_with fail
      refine Hv.out.mono ?_
      rintro e w8 ⟨rfl, hb8⟩
      have HR8 := Lib.hid (below_blk hb8 (lt_of_block HR6.out) HR6.out)
      have HG8 := Lib.hid (below_blk hb8 (lt_of_block HG6.out) HG6.out)
      have Hs8 := Lib.hid (Hs7.out.below hb8)
      have Hb8 := Lib.hid (below_nx Hb7.out hb8)
      clear hb8 y0 y1 fG hgl6 Hv HR6 HG6 Hs7 Hb7
      obtain ⟨r0, r1⟩ := blk_cells2 HR8.out
      have fR := fun o => free_at HR8.out o
      have hrl := lt_of_block HR8.out
      obtain ⟨y0, y1⟩ := blk_cells2 HG8.out
      have fG := fun o => free_at HG8.out o
      have hgl8 := lt_of_block HG8.out
      cases hok : ciB n GL with
      | false =>
        obtain ⟨rfl, rfl⟩ := Hfin.out.2 hok
        clear Hfin hok
        go_wp2_with fail
        obtain ⟨k0, k1⟩ := blk_cells2 (set2R (u0 := .int .i64 0) (u1 := .slice none 0 0) HR8.out)
        refine bodyPost_ret (v := .tuple #[.agg #[.int .i64 0, .slice none 0 0], .bool false]) (by simp only [results, Tryd.results20]; simp [go_sem, k0, k1]) rfl ⟨⟨.slice none 0 0, rfl, Enc.Sl.nil⟩, ?_⟩
        have := Hb8.out
        go_grown
      | true =>
        obtain ⟨rfl, rfl⟩ := Hfin.out.1 hok
        clear Hfin hok
        go_wp2_with fail
        obtain ⟨k0, k1⟩ := blk_cells2 (set2R (u0 := .int .i64 n) (u1 := .slice po 0 co) HR8.out)
        refine bodyPost_ret (v := .tuple #[.agg #[.int .i64 n, .slice po 0 co], .bool true]) (by simp only [results, Tryd.results20]; simp [go_sem, k0, k1]) rfl ⟨⟨_, rfl, ?_⟩, ?_⟩
        · exact (sl_set1 (sl_set1 Hs8.out (by omega)) (by omega)).mono (by omega)
        · have := Hb8.out
          go_grown
    · have h0m : 0 < m := Nat.pos_of_ne_zero h0
      go_wp2_with fail
      have Hh0 := Lib.hid h0
      clear h0
      go_loopw [30] (fun i wr => ∃ (j : Nat) (ov : Value), j ≤ m ∧ i = .int .i64 j ∧ Hid (∀ i, i < j → pgB (f (i + 1)) = true) ∧ Hid (wr.ownsRow (w3.heap.size + 1) 25 4 ov j (gtE.flat (gl j))) ∧ Hid (wr.heap[w3.heap.size]? = some (.cells #[.int .i64 n, ov] 65 (0, 0))) ∧ Hid (wr.heap[w.heap.size]? = some (.cells #[.int .i64 0, .slice none 0 0] 39 (0, 0))) ∧ Hid (wr.heap[b]? = some (.cells cs 9 (0, 0))) ∧ Hid (Below w.heap.size w wr)) (fun i _ => m - (Go.RowKit.intOf i).toNat)
      case atStart =>
        refine ⟨0, .slice none 0 0, Nat.zero_le _, rfl, Lib.hid (fun i hi => absurd hi (by omega)), ?_, HO4, HR4, Hr4, Hb4⟩
        rw [hn0]
        exact Hown4
      case round =>
        obtain ⟨j, ov, hj, rfl, Hall, HOw, HO, HR, Hr, Hb⟩ := hrel
        clear HR4 Hr4 HO4 Hb4 Hown4
        by_cases hlt : j < m
        · have hx : wr.cell? ⟨b, 1 + j, none⟩ = some (.string (f (j + 1))) := by rw [Nat.add_comm 1 j]; exact cell_at Hr.out (j + 1) _ (Hcs.out (j + 1) (by omega))
          have hblr := lt_of_block Hr.out
          have Hc := Lib.hid (Hpg.out (j + 1) wr (HL.out.below Hb.out))
          have Hn1 := Lib.hid (Hnn.out j (by omega))
          have Hsj := Lib.hid (Hsu.out j)
          have Hal := Lib.hid (fun (h : pgB (f (j + 1)) = true) => show ∀ i, i < j + 1 → pgB (f (i + 1)) = true from fun i hi => by
            rcases Nat.lt_or_ge i j with h' | h'
            · exact Hall.out i h'
            · obtain rfl : i = j := by omega
              exact h)
          generalize f (j + 1) = q at *
          generalize pgV q = x at *
          obtain ⟨t, ht⟩ : ∃ t, t = pgB q := ⟨_, rfl⟩
          rw [← ht] at Hc Hal Hn1
          clear ht
          go_wp2_with fail
          refine Hc.out.mono ?_
          rintro e w5 ⟨rfl, hb5⟩
          have HO5 := Lib.hid (alloc_blk (.cells #[.int .i64 x.k, .int .i64 x.a, .int .i64 x.b, .int .i64 x.c] 25) (below_blk hb5 (lt_of_block HO.out) HO.out))
          have HR5 := Lib.hid (alloc_blk (.cells #[.int .i64 x.k, .int .i64 x.a, .int .i64 x.b, .int .i64 x.c] 25) (below_blk hb5 (lt_of_block HR.out) HR.out))
          have Hr5 := Lib.hid (alloc_blk (.cells #[.int .i64 x.k, .int .i64 x.a, .int .i64 x.b, .int .i64 x.c] 25) (below_blk hb5 (lt_of_block Hr.out) Hr.out))
          have HX5 := Lib.hid (heap_alloc_new w5 (.cells #[.int .i64 x.k, .int .i64 x.a, .int .i64 x.b, .int .i64 x.c] 25))
          have Hown5 := Lib.hid ((row_belowS HOw.out hb5).alloc (.cells #[.int .i64 x.k, .int .i64 x.a, .int .i64 x.b, .int .i64 x.c] 25))
          have hbn := below_nx Hb.out hb5
          have hs5 := hbn.size
          have Hb5 := Lib.hid (hbn.alloc hs5 (.cells #[.int .i64 x.k, .int .i64 x.a, .int .i64 x.b, .int .i64 x.c] 25))
          have hz5 : w3.heap.size < w5.heap.size := lt_of_block (below_blk hb5 (lt_of_block HO.out) HO.out)
          clear hb5 hbn HO HR Hr HOw Hb hx hblr Hc Hall
          cases t with
          | false =>
            obtain ⟨rfl, rfl⟩ := Hn1.out rfl
            clear Hn1 Hal
            obtain ⟨r0, r1⟩ := blk_cells2 HR5.out
            have fR := fun o => free_at HR5.out o
            have hrl := lt_of_block HR5.out
            go_wp2_with fail
            obtain ⟨k0, k1⟩ := blk_cells2 (set2R (u0 := .int .i64 0) (u1 := .slice none 0 0) HR5.out)
            refine bodyPost_ret (v := .tuple #[.agg #[.int .i64 0, .slice none 0 0], .bool false]) (by simp only [results, Tryd.results20]; simp [go_sem, k0, k1]) rfl ⟨⟨.slice none 0 0, rfl, Enc.Sl.nil⟩, ?_⟩
            have := Hb5.out
            go_grown
          | true =>
            have Ha2 := Lib.hid (Hal.out rfl)
            clear Hal Hn1
            obtain ⟨y0, y1, y2, y3⟩ := blk_cells HX5.out
            have hxl := lt_of_block HX5.out
            have HO6 := Lib.hid (alloc_blk (.cells #[.int .i64 x.k, .int .i64 x.a, .int .i64 x.b, .int .i64 x.c] 25) HO5.out)
            have HR6 := Lib.hid (alloc_blk (.cells #[.int .i64 x.k, .int .i64 x.a, .int .i64 x.b, .int .i64 x.c] 25) HR5.out)
            have Hr6 := Lib.hid (alloc_blk (.cells #[.int .i64 x.k, .int .i64 x.a, .int .i64 x.b, .int .i64 x.c] 25) Hr5.out)
            have Hown6 := Lib.hid (Hown5.out.alloc (.cells #[.int .i64 x.k, .int .i64 x.a, .int .i64 x.b, .int .i64 x.c] 25))
            have Hb6 := Lib.hid (Hb5.out.alloc Hb5.out.size (.cells #[.int .i64 x.k, .int .i64 x.a, .int .i64 x.b, .int .i64 x.c] 25))
            have hsx : (w5.alloc (.cells #[.int .i64 x.k, .int .i64 x.a, .int .i64 x.b, .int .i64 x.c] 25)).heap.size = w5.heap.size + 1 := by simp
            have Hnew := Lib.hid (show gtE.Sl ((w5.alloc (.cells #[.int .i64 x.k, .int .i64 x.a, .int .i64 x.b, .int .i64 x.c] 25)).alloc (.cells #[.int .i64 x.k, .int .i64 x.a, .int .i64 x.b, .int .i64 x.c] 25)) (w5.heap.size + 1) (.slice (some ⟨w5.heap.size + 1, 0, none⟩) 1 1) [x] from Enc.Sl.mk rfl (Nat.le_refl _) (Nat.le_refl _) ⟨_, by have h := heap_alloc_new (w5.alloc (.cells #[.int .i64 x.k, .int .i64 x.a, .int .i64 x.b, .int .i64 x.c] 25)) (.cells #[.int .i64 x.k, .int .i64 x.a, .int .i64 x.b, .int .i64 x.c] 25); rw [hsx] at h; exact h, rfl⟩)
            have Hadd := Lib.hid (iadd (w5.heap.size + 1) w3.heap.size n ov _ j _ [x] _ HO6.out Hown6.out Hnew.out (by simp; omega))
            go_wp2_with fail
            refine Hadd.out.mono ?_
            rintro e w7 ⟨rfl, ⟨v7, hO7, hown7⟩, hb7, hz7, -⟩
            have HR7 := Lib.hid (below_blk hb7 (by omega) HR6.out)
            have hbb : b < w3.heap.size := hbl3
            have Hr7 := Lib.hid (below_blk hb7 hbb Hr6.out)
            have Hb7 := Lib.hid (Hb6.out.trans (hb7.mono (by omega)))
            have HO7 := Lib.hid hO7
            rw [show gtE.flat [x] = gtE.fl x by simp [Enc.flat], gtE.flat_snoc, ← Hsj.out] at hown7
            have Hown7 := Lib.hid hown7
            clear hown7 hO7 hb7 Hadd Hnew Hown6 HO6 HR6 Hr6 Hb6 Hown5 HO5 HR5 Hr5 Hb5 HX5 y0 y1 y2 y3 hxl hsx
            go_wp2_with fail
            go_roundw
            case rel => exact ⟨j + 1, v7, by omega, by go_num, Ha2, Hown7, HO7, HR7, Hr7, Hb7⟩
            case measure => simp [Go.RowKit.intOf]; omega
        · obtain rfl : j = m := by omega
          have hfin := Hf1.out Hall.out
          have Hgl0 := Hgl.out j
          obtain ⟨GL, hGL⟩ : ∃ GL, GL = gl j := ⟨_, rfl⟩
          rw [← hGL] at HOw hfin Hgl0
          clear hGL Hf1 Hall
          have hgl := Hgl0
          obtain ⟨po, co, hov⟩ : ∃ q c, ov = .slice q j c := by
            rcases HOw.out.2 with ⟨h, h'⟩ | ⟨g, cap, cur, h, _⟩
            · exact ⟨none, 0, by rw [h', h]⟩
            · exact ⟨_, _, h⟩
          subst hov
          have Hfin := Lib.hid hfin
          clear hfin
          obtain ⟨o0, o1⟩ := blk_cells2 HO.out
          have hol := lt_of_block HO.out
          have HFi := Lib.hid (ifinished n (.slice po j co) po j co wr rfl)
          go_wp2_with fail
          refine HFi.out.mono ?_
          rintro e w6 ⟨rfl, hb6⟩
          have HR6 := Lib.hid (alloc_blk (.cells #[.int .i64 n, .slice po j co] 39) (below_blk hb6 (lt_of_block HR.out) HR.out))
          have HG6 := Lib.hid (heap_alloc_new w6 (.cells #[.int .i64 n, .slice po j co] 39))
          have hsl : gtE.Sl w6 (w3.heap.size + 1) (.slice po j co) GL := Enc.Sl.of_own (E := gtE) (by rw [hgl]; exact row_belowS HOw.out hb6)
          have hb7 := below_nx Hb.out hb6
          have hs7 := hb7.size
          have hz6 : w.heap.size < w6.heap.size := lt_of_block (below_blk hb6 (lt_of_block HR.out) HR.out)
          have Hb7 := Lib.hid (hb7.alloc hs7 (.cells #[.int .i64 n, .slice po j co] 39))
          have Hs7 := Lib.hid (hsl.below ((Below.refl w6.heap.size w6).alloc (Nat.le_refl _) (.cells #[.int .i64 n, .slice po j co] 39)))
          clear hb6 hb7 hsl o0 o1 hol HO HOw HR Hb HFi
          obtain ⟨y0, y1⟩ := blk_cells2 HG6.out
          have fG := fun o => free_at HG6.out o
          have hgl6 := lt_of_block HG6.out
          have Hv := Lib.hid (ivalidC (w3.heap.size + 1) n (.slice po j co) GL _ Hs7.out (by rw [hgl]; omega) (by omega) (by omega))
          go_wp2_with fail
          refine Hv.out.mono ?_
          rintro e w8 ⟨rfl, hb8⟩
          have HR8 := Lib.hid (below_blk hb8 (lt_of_block HR6.out) HR6.out)
          have HG8 := Lib.hid (below_blk hb8 (lt_of_block HG6.out) HG6.out)
          have Hs8 := Lib.hid (Hs7.out.below hb8)
          have Hb8 := Lib.hid (below_nx Hb7.out hb8)
          clear hb8 y0 y1 fG hgl6 Hv HR6 HG6 Hs7 Hb7
          obtain ⟨r0, r1⟩ := blk_cells2 HR8.out
          have fR := fun o => free_at HR8.out o
          have hrl := lt_of_block HR8.out
          obtain ⟨y0, y1⟩ := blk_cells2 HG8.out
          have fG := fun o => free_at HG8.out o
          have hgl8 := lt_of_block HG8.out
          cases hok : ciB n GL with
          | false =>
            obtain ⟨rfl, rfl⟩ := Hfin.out.2 hok
            clear Hfin hok
            go_wp2_with fail
            obtain ⟨k0, k1⟩ := blk_cells2 (set2R (u0 := .int .i64 0) (u1 := .slice none 0 0) HR8.out)
            refine bodyPost_ret (v := .tuple #[.agg #[.int .i64 0, .slice none 0 0], .bool false]) (by simp only [results, Tryd.results20]; simp [go_sem, k0, k1]) rfl ⟨⟨.slice none 0 0, rfl, Enc.Sl.nil⟩, ?_⟩
            have := Hb8.out
            go_grown
          | true =>
            obtain ⟨rfl, rfl⟩ := Hfin.out.1 hok
            clear Hfin hok
            go_wp2_with fail
            obtain ⟨k0, k1⟩ := blk_cells2 (set2R (u0 := .int .i64 n) (u1 := .slice po j co) HR8.out)
            refine bodyPost_ret (v := .tuple #[.agg #[.int .i64 n, .slice po j co], .bool true]) (by simp only [results, Tryd.results20]; simp [go_sem, k0, k1]) rfl ⟨⟨_, rfl, ?_⟩, ?_⟩
            · exact (sl_set1 (sl_set1 Hs8.out (by omega)) (by omega)).mono (by omega)
            · have := Hb8.out
              go_grown
end Go.Proofs.YtbnkanlebjpkfaaDoor
