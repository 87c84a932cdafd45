/- The program's shareQubit, CircuitFromLayers. -/
import Derived.Test.YtckfklpgnneodaaGreatLyKl
import Derived.Test.YtckfklpgnneodaaGreatBaseB18
import Derived.Test.YtckfklpgnneodaaGreatBaseB12
namespace Go.Proofs.YtckfklpgnneodaaGreat
open Go.RowKit
attribute [local irreducible] World.cell?
set_option maxRecDepth 100000 in
set_option maxHeartbeats 1600000 in
theorem ishare (B : Nat) (n : Int) (v : Value) (L : List Gt) (w : World) (hv : gtE.Sl w B v L) (hm : L.length ≤ 1048576) (n0 : -9223372036854775808 ≤ n) (n1 : n ≤ 9223372036854775807) :
    Calls Tryz.prog 18 #[.int .i64 n, v] w fun e w' => e = .returned (.bool (decide (1 < (lysM n L).length))) ∧ Below w.heap.size w w' := by
  have H := Lib.hid (idepth B n v L w hv hm n0 n1)
  obtain ⟨a, cap, rfl, -, -⟩ := hv
  obtain ⟨T, hT⟩ : ∃ T, T = decide (1 < (lysM n L).length) := ⟨_, rfl⟩
  have he : decide ((1 : Int) < (((lysM n L).length : Nat) : Int)) = T := by
    rw [hT]
    by_cases h : 1 < (lysM n L).length
    · rw [decide_eq_true h, decide_eq_true (by omega)]
    · rw [decide_eq_false h, decide_eq_false (by omega)]
  rw [← hT]
  clear hT
  generalize (lysM n L).length = t at *
  go_enter Tryz.func18, Tryz.ntmps18
  go_wp2_with fail
  refine (H.out).mono ?_
  rintro e w1 ⟨rfl, hb1⟩
  have Hb1 := Lib.hid hb1
  clear hb1
  go_wp2_with fail
  go_ret
  exact ⟨rfl, Hb1.out⟩
set_option maxRecDepth 100000 in
set_option maxHeartbeats 6400000 in
theorem icfrom (B C : Nat) (n : Int) (v : Value) (M : List (List Gt)) (w : World) (hv : GSM w B C v M) (hm : M.length ≤ 1048576) (hf : M.flatten.length ≤ 1048576) (n0 : -9223372036854775808 ≤ n) (n1 : n ≤ 9223372036854775807) :
    Calls Tryz.prog 7 #[.int .i64 n, v] w fun e w' => (∃ r, e = .returned (.tuple #[.agg #[.int .i64 (cfN n M), r], .bool (cfB n M)]) ∧ gtE.Sl w' w.heap.size r (cfL n M)) ∧ Below w.heap.size w w' := by
  unfold cfN cfL
  obtain ⟨T, hT⟩ : ∃ T, T = cfB n M := ⟨_, rfl⟩
  rw [← hT]
  have HT := Lib.hid hT
  clear hT
  have HV := Lib.hid hv.upto
  obtain ⟨a, cap, rfl, hcap, hr⟩ := hv
  clear hr
  have hsz0 : ((w.alloc (.cells #[.int .i64 0, .slice none 0 0] 26)).alloc (.cells #[.int .i64 n, .slice none 0 0] 49)).heap.size = w.heap.size + 2 := by simp
  have HR := Lib.hid (alloc_blk (.cells #[.int .i64 n, .slice none 0 0] 49) (heap_alloc_new w (.cells #[.int .i64 0, .slice none 0 0] 26)))
  have HO := Lib.hid (show ((w.alloc (.cells #[.int .i64 0, .slice none 0 0] 26)).alloc (.cells #[.int .i64 n, .slice none 0 0] 49)).heap[w.heap.size + 1]? = some (.cells #[.int .i64 n, .slice none 0 0] 49 (0, 0)) by
    simpa using heap_alloc_new (w.alloc (.cells #[.int .i64 0, .slice none 0 0] 26)) (.cells #[.int .i64 n, .slice none 0 0] 49))
  have Hb0 := Lib.hid (show Below w.heap.size w ((w.alloc (.cells #[.int .i64 0, .slice none 0 0] 26)).alloc (.cells #[.int .i64 n, .slice none 0 0] 49)) by go_grown)
  go_enter Tryz.func7, Tryz.ntmps7
  go_wp2_with fail
  go_loopg [14] M.length (fun m i wr => ∃ (j : Nat) (F : List Gt) (q : Value), m = M.length - j ∧ j ≤ M.length ∧ i = .int .i64 j ∧ F.length ≤ 60 ∧ Hid (F = (M.take j).flatten) ∧ Hid (∀ l ∈ M.take j, ¬ 1 < (lysM n l).length) ∧ Hid (wr.heap[w.heap.size]? = some (.cells #[.int .i64 0, .slice none 0 0] 26 (0, 0))) ∧ Hid (wr.heap[w.heap.size + 1]? = some (.cells #[.int .i64 n, q] 49 (0, 0))) ∧ Hid (wr.ownsRow (w.heap.size + 1 + 1) 44 4 q F.length (gtE.flat F)) ∧ Hid (Below w.heap.size w wr))
  case atStart => exact ⟨0, [], .slice none 0 0, rfl, Nat.zero_le _, rfl, Nat.zero_le _, Lib.hid rfl, Lib.hid (fun l h => by simp at h), HR, HO, Lib.hid ⟨rfl, .inl ⟨rfl, rfl⟩⟩, Hb0⟩
  case round =>
    obtain ⟨j, F, q, rfl, hj, rfl, hF60, HF, Hok, HR1, HO1, Hown, Hb⟩ := hrel
    have hs := Hb.out.size
    obtain ⟨pq, cq, rfl⟩ := ownr_formS Hown.out
    obtain ⟨o0, o1⟩ := blk_cells2 HO1.out
    have hol := lt_of_block HO1.out
    have fo := fun o => free_at HO1.out o
    by_cases hlt : j < M.length
    · obtain ⟨r, hrM⟩ : ∃ r, M[j]? = some r := ⟨M[j], List.getElem?_eq_getElem hlt⟩
      have HV1 := Lib.hid (HV.out.below Hb.out)
      obtain ⟨a', cap', hv1, hv2, hv3⟩ := HV1.out
      injection hv1 with e1 _ e3
      subst e1 e3
      obtain ⟨lg, rfl, hBl, hlC, hrow⟩ := hv3 (by omega)
      obtain ⟨ra, rc, hlc, hsc⟩ := hrow.cell hrM
      have hll := hrow.lt
      have Hsl := Lib.hid hsc.sl
      have hrl : r.length ≤ 1048576 := Nat.le_trans (len_flat (List.mem_of_getElem? hrM)) hf
      have HrM := Lib.hid (List.mem_of_getElem? hrM)
      have Hfl := Lib.hid (flat_take hrM)
      have Hle := Lib.hid (len_take_flat M (j + 1))
      clear hv2 hv3 hrow hsc
      have hjI : (0 : Int) ≤ (j : Int) := by omega
      have hjL : (j : Int) < (M.length : Int) := by omega
      have hwr : IntKind.i64.wrap ((F.length : Int) + (r.length : Int)) = (F.length : Int) + (r.length : Int) := IntWalk.i64_in _ (by omega)
      by_cases hlen : 60 < F.length + r.length
      · have hdc : decide ((60 : Int) < (F.length : Int) + (r.length : Int)) = true := decide_eq_true (by omega)
        obtain rfl : T = false := HT.out.trans (cfB_long (by
          have h1 := Hle.out
          rw [Hfl.out, ← HF.out, List.length_append] at h1
          omega))
        obtain ⟨r0, r1⟩ := blk_cells2 HR1.out
        have fR := fun o => free_at HR1.out o
        have hrl' := lt_of_block HR1.out
        go_wp2_with fail
        obtain ⟨k0, k1⟩ := blk_cells2 (set2_at (u0 := .int .i64 0) (u1 := .slice none 0 0) HR1.out)
        refine bodyPost_ret (v := .tuple #[.agg #[.int .i64 0, .slice none 0 0], .bool false]) (by simp only [results, Tryz.results7]; simp [go_sem, k0, k1]) rfl ⟨⟨_, rfl, Enc.Sl.nil⟩, ?_⟩
        have := Hb.out
        go_grown
      · have hdc : decide ((60 : Int) < (F.length : Int) + (r.length : Int)) = false := decide_eq_false (by omega)
        have Hsh := Lib.hid (ishare _ n _ r _ Hsl.out hrl n0 n1)
        by_cases hsh : 1 < (lysM n r).length
        · rw [decide_eq_true hsh] at Hsh
          obtain rfl : T = false := HT.out.trans (cfB_share HrM.out hsh)
          clear hsh
          go_wp2_with fail
          refine (Hsh.out).mono ?_
          rintro e w4 ⟨rfl, hb4⟩
          have HR4 := Lib.hid (below_blk hb4 (lt_of_block HR1.out) HR1.out)
          have Hb4 := Lib.hid (below_nx Hb.out hb4)
          clear hb4 hlc o0 o1 hol fo
          obtain ⟨r0, r1⟩ := blk_cells2 HR4.out
          have fR := fun o => free_at HR4.out o
          have hrl' := lt_of_block HR4.out
          go_wp2_with fail
          obtain ⟨k0, k1⟩ := blk_cells2 (set2_at (u0 := .int .i64 0) (u1 := .slice none 0 0) HR4.out)
          refine bodyPost_ret (v := .tuple #[.agg #[.int .i64 0, .slice none 0 0], .bool false]) (by simp only [results, Tryz.results7]; simp [go_sem, k0, k1]) rfl ⟨⟨_, rfl, Enc.Sl.nil⟩, ?_⟩
          have := Hb4.out
          go_grown
        · rw [decide_eq_false hsh] at Hsh
          have Hok2 := Lib.hid (show ∀ l ∈ M.take (j + 1), ¬ 1 < (lysM n l).length from fun l hl => by
            rw [List.take_add_one, hrM] at hl
            rcases List.mem_append.1 hl with hl | hl
            · exact Hok.out l hl
            · obtain rfl : l = r := by simpa using hl
              exact hsh)
          have HF2 := Lib.hid (show F ++ r = (M.take (j + 1)).flatten by rw [Hfl.out, ← HF.out])
          clear hsh hrM
          go_wp2_with fail
          refine (Hsh.out).mono ?_
          rintro e w4 ⟨rfl, hb4⟩
          have HR4 := Lib.hid (below_blk hb4 (lt_of_block HR1.out) HR1.out)
          have HO4 := Lib.hid (below_blk hb4 (lt_of_block HO1.out) HO1.out)
          have Hown4 := Lib.hid (row_below Hown.out hb4)
          have Hsl4 := Lib.hid (Hsl.out.below hb4)
          have Hb4 := Lib.hid (below_nx Hb.out hb4)
          have hs4 := Hb4.out.size
          have Hadd := Lib.hid (iadd _ (w.heap.size + 1) n (.slice pq F.length cq) _ F.length (gtE.flat F) r w4 HO4.out Hown4.out Hsl4.out (by omega))
          clear hb4 hlc o0 o1 hol fo
          obtain ⟨o0, o1⟩ := blk_cells2 HO4.out
          have hol := lt_of_block HO4.out
          go_wp2_with fail
          refine (Hadd.out).mono ?_
          rintro e w5 ⟨rfl, ⟨v5, hO5, hown5⟩, hb5, hz5, -⟩
          have HR5 := Lib.hid (below_blk hb5 (by omega) HR4.out)
          have HO5 := Lib.hid hO5
          have Hown5 := Lib.hid (show w5.ownsRow (w.heap.size + 1 + 1) 44 4 v5 (F ++ r).length (gtE.flat (F ++ r)) by rw [List.length_append, gtE.flat_app]; exact hown5)
          have Hb5 := Lib.hid (Hb4.out.trans (hb5.mono (by omega)))
          have hl5 : (F ++ r).length ≤ 60 := by rw [List.length_append]; omega
          clear hO5 hown5 hb5 o0 o1 hol
          go_wp2_with fail
          go_roundg (M.length - (j + 1))
          case measure => omega
          case rel => exact ⟨j + 1, F ++ r, v5, rfl, by omega, by go_num, hl5, HF2, Hok2, HR5, HO5, Hown5, Hb5⟩
    · obtain rfl : j = M.length := by omega
      have hF := HF.out
      have hok := Hok.out
      rw [List.take_length] at hF hok
      have HTv := Lib.hid ((HT.out.trans (cfB_valid hok)).trans (show ciB n M.flatten = ciB n F by rw [hF]))
      have HFm := Lib.hid hF
      have hf2 : F.length ≤ 1048576 := by omega
      clear hF
      have Hfin := Lib.hid (fun W => ifinished n (.slice pq F.length cq) pq F.length cq W rfl)
      have Hval := Lib.hid (fun W B (h : gtE.Sl W B (.slice pq F.length cq) F) => ivalidC B n _ F W h hf2 n0 n1)
      clear hok HT Hok HF
      cases hc : ciB n F with
      | false =>
        rw [hc] at Hval
        obtain rfl : T = false := HTv.out.trans hc
        clear hc HTv
        go_wp2_with fail
        refine (Hfin.out _).mono ?_
        rintro e w4 ⟨rfl, hb4⟩
        have HR4 := Lib.hid (alloc_blk (.cells #[.int .i64 n, .slice pq F.length cq] 26) (below_blk hb4 (lt_of_block HR1.out) HR1.out))
        have HC4 := Lib.hid (heap_alloc_new w4 (.cells #[.int .i64 n, .slice pq F.length cq] 26))
        have Hb4 := Lib.hid (below_nx Hb.out hb4)
        have hs4 := Hb4.out.size
        have hz4 : w.heap.size + 1 < w4.heap.size := Nat.lt_of_lt_of_le hol hb4.size
        have Hb5 := Lib.hid (Hb4.out.alloc hs4 (.cells #[.int .i64 n, .slice pq F.length cq] 26))
        have Hsl5 := Lib.hid ((Enc.Sl.of_own (E := gtE) (row_below Hown.out hb4)).below ((Below.refl w4.heap.size w4).alloc (Nat.le_refl _) (.cells #[.int .i64 n, .slice pq F.length cq] 26)))
        have Hv := Lib.hid (Hval.out _ _ Hsl5.out)
        clear hb4 o0 o1 hol fo
        obtain ⟨o0, o1⟩ := blk_cells2 HC4.out
        have hol := lt_of_block HC4.out
        go_wp2_with fail
        refine (Hv.out).mono ?_
        rintro e w5 ⟨rfl, hb5⟩
        have HR5 := Lib.hid (below_blk hb5 (lt_of_block HR4.out) HR4.out)
        have HC5 := Lib.hid (below_blk hb5 (lt_of_block HC4.out) HC4.out)
        have Hb6 := Lib.hid (below_nx Hb5.out hb5)
        have Hsl6 := Lib.hid (Hsl5.out.below hb5)
        clear hb5 o0 o1 hol
        obtain ⟨o0, o1⟩ := blk_cells2 HC5.out
        have hol := lt_of_block HC5.out
        obtain ⟨r0, r1⟩ := blk_cells2 HR5.out
        have fR := fun o => free_at HR5.out o
        have hrl' := lt_of_block HR5.out
        go_wp2_with fail
        obtain ⟨k0, k1⟩ := blk_cells2 (set2_at (u0 := .int .i64 0) (u1 := .slice none 0 0) HR5.out)
        refine bodyPost_ret (v := .tuple #[.agg #[.int .i64 0, .slice none 0 0], .bool false]) (by simp only [results, Tryz.results7]; simp [go_sem, k0, k1]) rfl ⟨⟨_, rfl, Enc.Sl.nil⟩, ?_⟩
        have := Hb6.out
        go_grown
      | true =>
        rw [hc] at Hval
        obtain rfl : T = true := HTv.out.trans hc
        clear hc HTv
        go_wp2_with fail
        refine (Hfin.out _).mono ?_
        rintro e w4 ⟨rfl, hb4⟩
        have HR4 := Lib.hid (alloc_blk (.cells #[.int .i64 n, .slice pq F.length cq] 26) (below_blk hb4 (lt_of_block HR1.out) HR1.out))
        have HC4 := Lib.hid (heap_alloc_new w4 (.cells #[.int .i64 n, .slice pq F.length cq] 26))
        have Hb4 := Lib.hid (below_nx Hb.out hb4)
        have hs4 := Hb4.out.size
        have hz4 : w.heap.size + 1 < w4.heap.size := Nat.lt_of_lt_of_le hol hb4.size
        have Hb5 := Lib.hid (Hb4.out.alloc hs4 (.cells #[.int .i64 n, .slice pq F.length cq] 26))
        have Hsl5 := Lib.hid ((Enc.Sl.of_own (E := gtE) (row_below Hown.out hb4)).below ((Below.refl w4.heap.size w4).alloc (Nat.le_refl _) (.cells #[.int .i64 n, .slice pq F.length cq] 26)))
        have Hv := Lib.hid (Hval.out _ _ Hsl5.out)
        clear hb4 o0 o1 hol fo
        obtain ⟨o0, o1⟩ := blk_cells2 HC4.out
        have hol := lt_of_block HC4.out
        go_wp2_with fail
        refine (Hv.out).mono ?_
        rintro e w5 ⟨rfl, hb5⟩
        have HR5 := Lib.hid (below_blk hb5 (lt_of_block HR4.out) HR4.out)
        have HC5 := Lib.hid (below_blk hb5 (lt_of_block HC4.out) HC4.out)
        have Hb6 := Lib.hid (below_nx Hb5.out hb5)
        have Hsl6 := Lib.hid (Hsl5.out.below hb5)
        clear hb5 o0 o1 hol
        obtain ⟨o0, o1⟩ := blk_cells2 HC5.out
        have hol := lt_of_block HC5.out
        obtain ⟨r0, r1⟩ := blk_cells2 HR5.out
        have fR := fun o => free_at HR5.out o
        have hrl' := lt_of_block HR5.out
        go_wp2_with fail
        obtain ⟨k0, k1⟩ := blk_cells2 (set2_at (u0 := .int .i64 n) (u1 := .slice pq F.length cq) HR5.out)
        refine bodyPost_ret (v := .tuple #[.agg #[.int .i64 n, .slice pq F.length cq], .bool true]) (by simp only [results, Tryz.results7]; simp [go_sem, k0, k1]) rfl ⟨⟨_, rfl, ?_⟩, ?_⟩
        · show gtE.Sl _ _ _ M.flatten
          rw [← HFm.out]
          exact (sl_set1 (off := 1) (u := .slice pq F.length cq) (sl_set1 (off := 0) (u := .int .i64 n) Hsl6.out (show w.heap.size < w.heap.size + 1 + 1 by omega)) (show w.heap.size < w.heap.size + 1 + 1 by omega)).mono (show w.heap.size ≤ w.heap.size + 1 + 1 by omega)
        · have := Hb6.out
          go_grown
end Go.Proofs.YtckfklpgnneodaaGreat
