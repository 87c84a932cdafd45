/- ScaleState and AddStates of the model. -/
import Derived.Test.YtadimihfbpkilaaBaseB18
import Derived.Test.YtadimihfbpkilaaBaseB06
namespace Go.Proofs.Ytadimihfbpkilaa
open Go.RowKit
theorem fl_new (w : World) (y : Dw) (t : TypeId) : ∀ j u, (fl y)[j]? = some u → (w.alloc (.cells #[.int .i64 y.n.a, .int .i64 y.n.b, .int .i64 y.n.c, .int .i64 y.n.d, .int .i64 y.e] t)).cell? ((⟨w.heap.size, 0, none⟩ : Addr).add j) = some u := by
  intro j u hj
  match j, hj with
  | 0, hj => simp [fl] at hj; subst hj; simp [Addr.add]
  | 1, hj => simp [fl] at hj; subst hj; simp [Addr.add]
  | 2, hj => simp [fl] at hj; subst hj; simp [Addr.add]
  | 3, hj => simp [fl] at hj; subst hj; simp [Addr.add]
  | 4, hj => simp [fl] at hj; subst hj; simp [Addr.add]
  | j + 5, hj => simp [fl] at hj
theorem own_new {w : World} {n : Nat} {t : TypeId} (h : n = w.heap.size) : (w.alloc (.cells #[] t)).ownsRow n t 5 (.slice (some ⟨n, 0, none⟩) 0 0) 0 (flat []) := by
  subst h; exact World.ownsRow_lit w #[] 0 (Nat.le_refl _) (Nat.zero_le _) rfl
theorem fl_plain (y : Dw) : ∀ u ∈ fl y, u.oneCell' = true := by
  intro u hu
  simp [fl] at hu
  rcases hu with rfl | rfl | rfl | rfl | rfl <;> rfl
theorem scale_step {l : List Dw} {x y : Dw} {j : Nat} (hy : l[j]? = some y) : flat ((l.map fun y => dMulV y x).take j) ++ fl (dMulV y x) = flat ((l.map fun y => dMulV y x).take (j + 1)) := by
  rw [List.take_add_one, List.getElem?_map, hy, flat_app]
  simp [flat]
attribute [local irreducible] World.cell?
set_option maxRecDepth 100000 in
set_option maxHeartbeats 6400000 in
theorem sscale (B : Nat) (v : Value) (l : List Dw) (x : Dw) (w : World) (hv : DSl w B v l) (hm : l.length ≤ 1048576) :
    Calls Try.prog 56 #[v, (.agg #[.int .i64 x.n.a, .int .i64 x.n.b, .int .i64 x.n.c, .int .i64 x.n.d, .int .i64 x.e])] w fun e w' => (∃ u, e = .returned (.tuple #[u, .bool (scaleB l x)]) ∧ DSl w' w.heap.size u (scaleL l x)) ∧ Below w.heap.size w w' := by
  obtain ⟨i0, hi, hz0, hz1, hz2⟩ := info_parts infoDw
  have Hvs := Lib.hid (fun W (h : DSl W B v l) => svalidSt B v l W h hm)
  have Hv0 := Lib.hid hv
  obtain ⟨a, cap, rfl, hcap, hr⟩ := hv
  have Hr := Lib.hid hr
  clear hr
  have Hx0 := Lib.hid (heap_alloc_new w (.cells #[.int .i64 x.n.a, .int .i64 x.n.b, .int .i64 x.n.c, .int .i64 x.n.d, .int .i64 x.e] 91))
  obtain ⟨SL, hSL⟩ : ∃ SL, SL = scaleL l x := ⟨_, rfl⟩
  obtain ⟨SB, hSB⟩ : ∃ SB, SB = scaleB l x := ⟨_, rfl⟩
  rw [← hSL, ← hSB]
  have HSL := Lib.hid hSL
  have HSB := Lib.hid hSB
  clear hSL hSB
  go_enter Try.func56, Try.ntmps56
  go_wp2_with fail
  go_loopg [6, 7] l.length (fun k out i wr => ∃ j : Nat, k = l.length - j ∧ j ≤ l.length ∧ i = .int .i64 j ∧ Hid (wr.ownsRow (w.heap.size + 1) 91 5 out j (flat ((l.map fun y => dMulV y x).take j))) ∧ Hid ((l.take j).all (fun y => dMulB y x) = true) ∧ Hid (j = 0 ∨ stB l = true) ∧ Hid (wr.heap[w.heap.size]? = some (.cells #[.int .i64 x.n.a, .int .i64 x.n.b, .int .i64 x.n.c, .int .i64 x.n.d, .int .i64 x.e] 91)) ∧ Hid (Below w.heap.size w wr))
  case atStart => exact ⟨0, rfl, Nat.zero_le _, rfl, own_new (by simp), Lib.hid (show (List.take 0 l).all _ = true from rfl), Lib.hid (.inl rfl), alloc_blk _ Hx0.out, ((Below.refl _ _).alloc (Nat.le_refl _) _).alloc (by simp) _⟩
  case round =>
    obtain ⟨j, rfl, hj, rfl, Hown, Hall, Hst, HX, Hb⟩ := hrel
    by_cases hlt : j < l.length
    · obtain ⟨g, rfl, _, hrow⟩ := Hr.out (by omega)
      obtain ⟨y, hy⟩ : ∃ y, l[j]? = some y := ⟨l[j], List.getElem?_eq_getElem hlt⟩
      have r1 := hrow.below Hb.out hrow.lt
      obtain ⟨c0, c1, c2, c3, c4⟩ := r1.cells hy
      obtain ⟨x0, x1, x2, x3, x4⟩ := blk_cells5 HX.out
      have hgl := r1.lt
      have hxl := lt_of_block HX.out
      have Hy := Lib.hid hy
      have Hm := Lib.hid (smulD_any y x)
      have Hstep := Lib.hid (scale_step (x := x) hy)
      have Hat := Lib.hid (all_take (p := fun y => dMulB y x) hy Hall.out)
      have Hno := Lib.hid (fun h => all_no (p := fun y => dMulB y x) hy h)
      clear hy hrow r1
      generalize dMulV y x = z at *
      generalize dMulB y x = t at *
      go_upto_region 5 with fail
      go_cut [8, 9] from 11 to 37 (fun s8 s9 wx => ∃ k, s8 = .pointer (some ⟨k, 0, none⟩) ∧ s9 = .bool t ∧ wx.cell? ⟨k, 0, none⟩ = some (.int .i64 z.n.a) ∧ wx.cell? ⟨k, 1, none⟩ = some (.int .i64 z.n.b) ∧ wx.cell? ⟨k, 2, none⟩ = some (.int .i64 z.n.c) ∧ wx.cell? ⟨k, 3, none⟩ = some (.int .i64 z.n.d) ∧ wx.cell? ⟨k, 4, none⟩ = some (.int .i64 z.e) ∧ Hid (Below wr.heap.size wr wx))
      case first =>
        have hS : FB wr g (j * 5) y w.heap.size x wr := ⟨c0, c1, c2, c3, c4, x0, x1, x2, x3, x4, hgl, hxl, Below.refl _ _⟩
        have hq : wr.heap.size ≤ wr.heap.size := Nat.le_refl _
        have hn : g < wr.heap.size ∧ w.heap.size < wr.heap.size := ⟨hgl, hxl⟩
        have hw : wr.heap.size ≤ wr.heap.size := Nat.le_refl _
        go_region_held3 (fun w' => w'.cell? ⟨g, j * 5, none⟩ = some (.int .i64 y.n.a) ∧ w'.cell? ⟨g, j * 5 + 1, none⟩ = some (.int .i64 y.n.b) ∧ w'.cell? ⟨g, j * 5 + 2, none⟩ = some (.int .i64 y.n.c) ∧ w'.cell? ⟨g, j * 5 + 3, none⟩ = some (.int .i64 y.n.d) ∧ w'.cell? ⟨g, j * 5 + 4, none⟩ = some (.int .i64 y.e) ∧ w'.cell? ⟨w.heap.size, 0, none⟩ = some (.int .i64 x.n.a) ∧ w'.cell? ⟨w.heap.size, 1, none⟩ = some (.int .i64 x.n.b) ∧ w'.cell? ⟨w.heap.size, 2, none⟩ = some (.int .i64 x.n.c) ∧ w'.cell? ⟨w.heap.size, 3, none⟩ = some (.int .i64 x.n.d) ∧ w'.cell? ⟨w.heap.size, 4, none⟩ = some (.int .i64 x.e) ∧ g < w'.heap.size ∧ w.heap.size < w'.heap.size ∧ Below wr.heap.size wr w') (first | (show FB wr g (j * 5) y w.heap.size x _; (with_reducible exact hS.drew)) | (show FB wr g (j * 5) y w.heap.size x _; (with_reducible exact (hS.alloc _).drew)) | (show FB wr g (j * 5) y w.heap.size x _; (with_reducible refine FB.below ?_ hbR); first | assumption | exact ⟨by assumption, by assumption, by assumption, by assumption, by assumption, by assumption, by assumption, by assumption, by assumption, by assumption, by assumption, by assumption, by assumption⟩) | (show FB wr g (j * 5) y w.heap.size x _; (with_reducible refine FB.alloc ?_ _); first | assumption | exact ⟨by assumption, by assumption, by assumption, by assumption, by assumption, by assumption, by assumption, by assumption, by assumption, by assumption, by assumption, by assumption, by assumption⟩) | (show FB wr g (j * 5) y w.heap.size x _; (with_reducible refine FB.realloc (p := .cells #[.int .i64 0, .int .i64 0, .int .i64 0, .int .i64 0, .int .i64 0] 91) ?_ hq hn hw); first | assumption | exact ⟨by assumption, by assumption, by assumption, by assumption, by assumption, by assumption, by assumption, by assumption, by assumption, by assumption, by assumption, by assumption, by assumption⟩) | (show FB wr g (j * 5) y w.heap.size x _; (with_reducible refine FB.set5 (lim := wr.heap.size) ?_ ?_ hn hw); (first | assumption | exact ⟨by assumption, by assumption, by assumption, by assumption, by assumption, by assumption, by assumption, by assumption, by assumption, by assumption, by assumption, by assumption, by assumption⟩); (first | assumption | exact Nat.le_refl _)))
          (first | (go_at_call 69; (first | (with_reducible refine (Hm.out _).mono ?_)); rintro e wR ⟨rfl, hbR⟩; (first | (have hq := Nat.le_trans hq hbR.size) | (have hq : wr.heap.size ≤ wR.heap.size := by have := hbR.size; simpa using this) | (have hq : wr.heap.size ≤ wR.heap.size := by have := hbR.size; simp at this; exact Nat.le_of_succ_le this) | (have hq := Nat.le_trans hq (Nat.le_of_succ_le (by have := hbR.size; simpa using this)))); obtain ⟨hcR, hfR, hzR⟩ := bgrow hbR; (first | (have zg := hzR _ zg) | (have zg := hzR _ (lt_alloc _ _); try simp at zg) | skip)))
        all_goals go_wp2_with fail
        all_goals go_meet
        all_goals refine ⟨_, rfl, rfl, ?_, ?_, ?_, ?_, ?_, FB.low (g := g) (o := j * 5) (x := y) (b := w.heap.size) (y := x) (by assumption)⟩
        all_goals (simp [*, go_sem]; done)
      case rest =>
      obtain ⟨k, rfl, rfl, k0, k1, k2, k3, k4, Hbx⟩ := hcut
      have Hown2 := Lib.hid (row_below Hown.out Hbx.out)
      have HX2 := Lib.hid (below_blk Hbx.out hxl HX.out)
      have Hb2 := Lib.hid (below_nx Hb.out Hbx.out)
      have hs2 := Hb2.out.size
      have hkl := World.block_lt_of_cell? _ _ k0
      clear c0 c1 c2 c3 c4 x0 x1 x2 x3 x4 Hown HX Hm
      cases t with
      | false =>
        have hS : scaleB l x = false := by unfold scaleB; rw [Hno.out rfl]; simp
        obtain rfl : SL = [] := HSL.out.trans (if_neg (by rw [hS]; decide))
        obtain rfl : SB = false := HSB.out.trans hS
        go_wp2_with fail
        go_returns
        exact ⟨⟨_, rfl, DSl.nil⟩, by have := Hb2.out; have := Hb2.out.size; go_grown⟩
      | true =>
        have Hv := Lib.hid (Hvs.out wc (Hv0.out.block fun g' _ hg' => Hb2.out.block g' hg'))
        cases hst : stB l with
        | false =>
          have hS : scaleB l x = false := by unfold scaleB; rw [hst]; rfl
          rw [hst] at Hv
          obtain rfl : SL = [] := HSL.out.trans (if_neg (by rw [hS]; decide))
          obtain rfl : SB = false := HSB.out.trans hS
          go_wp2_with fail
          refine (Hv.out).mono ?_
          rintro e w3 ⟨rfl, hb3⟩
          have Hb3 := Lib.hid (below_nx Hb2.out hb3)
          clear hb3
          go_wp2_with fail
          go_returns
          exact ⟨⟨_, rfl, DSl.nil⟩, by have := Hb3.out; have := Hb3.out.size; go_grown⟩
        | true =>
          rw [hst] at Hv
          go_wp2_with fail
          refine (Hv.out).mono ?_
          rintro e w3 ⟨rfl, hb3⟩
          have Hown3 := Lib.hid (row_below Hown2.out hb3)
          have HX3 := Lib.hid (below_blk hb3 (lt_of_block HX2.out) HX2.out)
          have Hb3 := Lib.hid (below_nx Hb2.out hb3)
          have q0 := cell_below k0 hb3 hkl
          have q1 := cell_below k1 hb3 hkl
          have q2 := cell_below k2 hb3 hkl
          have q3 := cell_below k3 hb3 hkl
          have q4 := cell_below k4 hb3 hkl
          have hs3 := Hb3.out.size
          have hx3 := lt_of_block HX3.out
          clear hb3 k0 k1 k2 k3 k4 Hown2 HX2 Hb2
          go_wp2_with (first
            | (at_builtin; refine wpList_append_own _ rfl _ _ 60 rfl (w.heap.size + 1) 91 i0 (.agg #[.int .i64 0, .int .i64 0, .int .i64 0, .int .i64 0, .int .i64 0]) 5 40 Try.underlying60 hi hz0 hz1 hz2 rfl (by decide) _ _ _ rfl (Hown3.out.alloc _) ⟨w3.heap.size, 0, none⟩ 1 1 (fl z) rfl rfl (fl_new _ _ _) (fl_plain _) ?d3 ?d4 ?d5 ?_))
          case d3 => unfold maxLen; omega
          case d4 => omega
          case d5 => first | omega | (simp; omega) | (simp; omega)
          intro v' w4 hown' hgrow _
          have HB4 := Lib.hid ((Hb3.out.alloc (by omega) (.cells #[.int .i64 z.n.a, .int .i64 z.n.b, .int .i64 z.n.c, .int .i64 z.n.d, .int .i64 z.e] 91)).grown hgrow (by simp; omega) (fun q hq => by have := Hown3.out.lt q hq; omega))
          have HX4 := Lib.hid (show w4.heap[w.heap.size]? = some (.cells #[.int .i64 x.n.a, .int .i64 x.n.b, .int .i64 x.n.c, .int .i64 x.n.d, .int .i64 x.e] 91) by
            rw [hgrow.block w.heap.size (by simp; omega) (fun h => by have := (Hown3.out.lt _ h.symm).1; omega)]
            exact alloc_blk _ HX3.out)
          rw [Hstep.out] at hown'
          have Hown4 := Lib.hid hown'
          clear hown' hgrow
          go_wp2_with fail
          go_roundg (l.length - (j + 1))
          case measure => omega
          case rel => exact ⟨j + 1, rfl, by omega, by go_num, Hown4.out, Lib.hid Hat.out, Lib.hid (.inr hst), HX4, HB4⟩
    · obtain rfl : j = l.length := by omega
      have hall : l.all (fun y => dMulB y x) = true := by have := Hall.out; rwa [List.take_length] at this
      have hS : scaleB l x = stB l := by unfold scaleB; rw [hall, Bool.and_true]
      have hL : l.map (fun y => dMulV y x) = scaleL l x := by
        unfold scaleL
        rw [hS]
        rcases Hst.out with h | h
        · rw [List.eq_nil_of_length_eq_zero h]; simp
        · rw [if_pos h]
      have hown := Hown.out
      rw [show l.length = (scaleL l x).length by rw [← hL, List.length_map], show (l.map fun y => dMulV y x) = scaleL l x from hL, List.take_length] at hown
      have Hout := Lib.hid (DSl.of_own hown)
      obtain rfl := HSL.out
      obtain rfl : SB = stB l := HSB.out.trans hS
      clear hown hL hall
      have Hv := Lib.hid (Hvs.out wr (Hv0.out.block fun g' _ hg' => Hb.out.block g' hg'))
      go_wp2_with fail
      refine (Hv.out).mono ?_
      rintro e w3 ⟨rfl, hb3⟩
      have Hout3 := Lib.hid ((Hout.out.below hb3).mono (Nat.le_succ w.heap.size))
      have Hb3 := Lib.hid (below_nx Hb.out hb3)
      clear hb3
      go_wp2_with fail
      go_returns
      exact ⟨⟨_, rfl, Hout3.out⟩, Hb3.out⟩
end Go.Proofs.Ytadimihfbpkilaa
