/- The law FnExactConcatCircuits: ConcatCircuits answers as its model, at every two circuits. No condition. -/
import Derived.Test.YtmpafidkpangeaaInit
import Derived.Test.YtmpafidkpangeaaBaseB23
import Derived.Test.YtmpafidkpangeaaCiN
import Derived.Test.YtmpafidkpangeaaBaseB20
import Derived.Test.YtmpafidkpangeaaBaseB26
import Derived.Test.YtmpafidkpangeaaBaseB24
import Derived.Test.YtmpafidkpangeaaBaseB13
import Derived.Test.YtmpafidkpangeaaBaseB09
import Derived.Lib.SmallJoins
import Derived.WalkKit
import Derived.ProofKit
import Derived.OpenShut
import Derived.Deep.DeepHandedRow
import Derived.Lib.LaidTab
import Derived.LaidMore
import Derived.LaidHandle
import Derived.Lay
import Derived.Stop.LaidErr
namespace Go.Proofs.Ytmpafidkpangeaa.fnExactConcatCircuits
open Go.ChangeShapes Go.WideShapes Go.ChangeAt Go.RowKit Go.Lib
attribute [local irreducible] World.cell?
set_option maxRecDepth 100000 in
set_option maxHeartbeats 6400000 in
theorem walk (n : Int) (la : Option Addr) (lc : Nat) (l : List Gt) (m : Int) (ka : Option Addr) (kc : Nat) (k : List Gt) (w : World) (n0 : -9223372036854775808 ≤ n) (n1 : n ≤ 9223372036854775807) (hin : GsIn w w.heap.size la l) (_ : -9223372036854775808 ≤ m) (_ : m ≤ 9223372036854775807) (hik : GsIn w w.heap.size ka k) :
    Calls Try.prog 8 #[.agg #[.int .i64 n, .slice la l.length lc], .agg #[.int .i64 m, .slice ka k.length kc]] w fun e w' => e = .returned (.bool true) ∧ Below w.heap.size w w' := by
  have hm := hin.1
  have hmk := hik.1
  have HX := Lib.hid (alloc_blk (.cells #[.int .i64 m, .slice ka k.length kc] 50) (heap_alloc_new w (.cells #[.int .i64 n, .slice la l.length lc] 50)))
  have HY := Lib.hid (show ((w.alloc (.cells #[.int .i64 n, .slice la l.length lc] 50)).alloc (.cells #[.int .i64 m, .slice ka k.length kc] 50)).heap[w.heap.size + 1]? = some (.cells #[.int .i64 m, .slice ka k.length kc] 50 (0, 0)) by
    simpa using heap_alloc_new (w.alloc (.cells #[.int .i64 n, .slice la l.length lc] 50)) (.cells #[.int .i64 m, .slice ka k.length kc] 50))
  obtain ⟨cX0, cX1⟩ := blk_cells2 HX.out
  have lX := lt_of_block HX.out
  obtain ⟨cY0, cY1⟩ := blk_cells2 HY.out
  have lY := lt_of_block HY.out
  have Hb := Lib.hid (show Below w.heap.size w ((w.alloc (.cells #[.int .i64 n, .slice la l.length lc] 50)).alloc (.cells #[.int .i64 m, .slice ka k.length kc] 50)) by go_grown)
  have ha0 := size_alloc1 w (.cells #[.int .i64 n, .slice la l.length lc] 50)
  have hay := size_alloc1 (w.alloc (.cells #[.int .i64 n, .slice la l.length lc] 50)) (.cells #[.int .i64 m, .slice ka k.length kc] 50)
  by_cases hs : l.length + k.length ≤ 1048576
  · have hnl : l.length ≤ 1048576 := by omega
    have hnk : k.length ≤ 1048576 := by omega
    have Hto := Lib.hid (fun W (hb : Below w.heap.size w W) => toCi n la lc w.heap.size l W (hin.below hb) hb.size hnl)
    have Hty := Lib.hid (fun W (hb : Below w.heap.size w W) => toCi m ka kc w.heap.size k W (hik.below hb) hb.size hnk)
    have hr : (cjL n l m k).length ≤ 1048576 := by unfold cjL; split <;> simp <;> omega
    have Hsp := Lib.hid (fun W B C v u (h1 : gtE.Sl W B v l) (h2 : gtE.Sl W C u k) => sconcat B C n m v u l k W h1 h2 hs)
    have Him := Lib.hid (fun W B C v u (h1 : gtE.Sl W B v l) (h2 : gtE.Sl W C u k) => iconcat B C n m v u l k W h1 h2 hs n0 n1)
    generalize cjL n l m k = r at *
    generalize cjN n l m k = q at *
    generalize cjB n l m k = t at *
    have htt : (t != t) = false := by simp
    have hk0 : ¬ (1 + (l.length : Int) * 4 + (k.length : Int) * 4 < 0) := by omega
    have HmC := Lib.hid (show ∀ W B C v, gtE.Sc W B C v k → B ≤ W.heap.size → Calls Try.prog 34 #[.agg #[.int .i64 m, v], .int .i64 (1 + (l.length : Int) * 4)] W fun e w' => e = .returned (.int .i64 (1 + (l.length : Int) * 4 + (k.length : Int) * 4)) ∧ gtE.Sc w' B C v (marksG (1 + l.length * 4) k.length) ∧ Mid B C W w' from fun W B C v hv hB => by
      have h := markCi B C (1 + l.length * 4) m v k W hv hB hnk (by omega)
      rw [show ((1 + l.length * 4 : Nat) : Int) = 1 + (l.length : Int) * 4 by omega, show ((1 + l.length * 4 + k.length * 4 : Nat) : Int) = 1 + (l.length : Int) * 4 + (k.length : Int) * 4 by omega] at h
      exact h)
    clear hin hik
    go_enter Try.func8, Try.ntmps8
    go_wp2_with fail
    refine (szCiFit n la l.length lc 1048576 _ (by omega) (by omega) (by omega)).mono ?_
    rintro e w1 ⟨rfl, hb1⟩
    have Hb := Lib.hid (below_nx Hb.out hb1)
    have hz1 := hb1.size
    have HX := Lib.hid (below_blk hb1 (lt_of_block HX.out) HX.out)
    have HY := Lib.hid (below_blk hb1 (lt_of_block HY.out) HY.out)
    clear hb1
    clear cX0 cX1 lX
    obtain ⟨cX0, cX1⟩ := blk_cells2 HX.out
    have lX := lt_of_block HX.out
    clear cY0 cY1 lY
    obtain ⟨cY0, cY1⟩ := blk_cells2 HY.out
    have lY := lt_of_block HY.out
    go_wp2_with fail
    refine (szCiFit m ka k.length kc _ _ (by omega) (by omega) (by omega)).mono ?_
    rintro e w2 ⟨rfl, hb2⟩
    have Hb := Lib.hid (below_nx Hb.out hb2)
    have hz2 := hb2.size
    have HX := Lib.hid (below_blk hb2 (lt_of_block HX.out) HX.out)
    have HY := Lib.hid (below_blk hb2 (lt_of_block HY.out) HY.out)
    clear hb2
    clear cX0 cX1 lX
    obtain ⟨cX0, cX1⟩ := blk_cells2 HX.out
    have lX := lt_of_block HX.out
    clear cY0 cY1 lY
    obtain ⟨cY0, cY1⟩ := blk_cells2 HY.out
    have lY := lt_of_block HY.out
    go_wp2_with fail
    have hS : CB2 w2 (w.heap.size) (w.heap.size + 1) n m (.slice la l.length lc) (.slice ka k.length kc) w2 := ⟨cX0, cX1, cY0, cY1, lX, lY, Below.refl _ _⟩
    have hBw := Hb.out
    have hBW := Below.refl w2.heap.size w2
    have hsW := Hb.out.size
    go_upto_region 8 with fail
    go_cut [6, 7] from 27 to 34 (fun s6 s7 wx => ∃ (O : Nat) (vw : Value), s6 = .pointer (some ⟨O, 0, none⟩) ∧ s7 = .bool t ∧ w2.heap.size ≤ O ∧ Hid (wx.heap[O]? = some (.cells #[.int .i64 q, vw] 26 (0, 0))) ∧ Hid (gtE.Sl wx w2.heap.size vw r) ∧ Hid (Below w2.heap.size w2 wx))
    case first =>
      go_region_held3 (fun w' => w'.cell? ⟨w.heap.size, 0, none⟩ = some (.int .i64 n) ∧ w'.cell? ⟨w.heap.size, 1, none⟩ = some (.slice la l.length lc) ∧ w'.cell? ⟨w.heap.size + 1, 0, none⟩ = some (.int .i64 m) ∧ w'.cell? ⟨w.heap.size + 1, 1, none⟩ = some (.slice ka k.length kc) ∧ w.heap.size < w'.heap.size ∧ w.heap.size + 1 < w'.heap.size ∧ Below w2.heap.size w2 w') (first | (show CB2 _ _ _ _ _ _ _ _; (with_reducible exact hS.drew)) | (show CB2 _ _ _ _ _ _ _ _; (with_reducible exact (CB2.alloc hS).drew)) | (show CB2 _ _ _ _ _ _ _ _; (with_reducible refine CB2.below ?_ hbR); first | assumption | exact ⟨by assumption, by assumption, by assumption, by assumption, by assumption, by assumption, by assumption⟩) | (show CB2 _ _ _ _ _ _ _ _; (with_reducible exact hSx)) | (show CB2 _ _ _ _ _ _ _ _; (with_reducible exact CB2.alloc hSx)) | (show CB2 _ _ _ _ _ _ _ _; (with_reducible refine CB2.alloc ?_); first | assumption | exact ⟨by assumption, by assumption, by assumption, by assumption, by assumption, by assumption, by assumption⟩) | (show CB2 _ _ _ _ _ _ _ _; (with_reducible refine CB2.set (CB2.set ?_ (by omega) (by omega) (by omega)) (by omega) (by omega) (by omega)); first | (with_reducible exact hSx) | (with_reducible exact CB2.alloc hSx)))
        (first
          | (go_at_call 32; (with_reducible refine (Hto.out _ ?hb).mono ?_); (case hb => go_grown); rintro e wR ⟨vR, rfl, hdR, hbR⟩; (first | (have HO := Lib.hid (below_blk hbR (lt_of_block HO.out) HO.out); have hOz := lt_of_block HO.out) | (have HO := Lib.hid (below_blk hbR (lt_of_block (heap_alloc_new _ (.cells #[.int .i64 0, .slice none 0 0] 26))) (heap_alloc_new _ (.cells #[.int .i64 0, .slice none 0 0] 26))); have hOz := lt_of_block HO.out) | skip); have HdR := Lib.hid hdR; have hBw := below_nx (show Below w.heap.size w _ by go_grown) hbR; have hBW := below_nx (show Below w2.heap.size w2 _ by go_grown) hbR; have hSx := CB2.below hS hBW; have hzx := hBW.size; obtain ⟨pR, qR, rfl, -, -⟩ := hdR)
          | (go_at_call 32; (with_reducible refine (Hty.out _ ?hb).mono ?_); (case hb => go_grown); rintro e wS ⟨vS, rfl, hdS, hbR⟩; (first | (have HO := Lib.hid (below_blk hbR (lt_of_block HO.out) HO.out); have hOz := lt_of_block HO.out) | (have HO := Lib.hid (below_blk hbR (lt_of_block (heap_alloc_new _ (.cells #[.int .i64 0, .slice none 0 0] 26))) (heap_alloc_new _ (.cells #[.int .i64 0, .slice none 0 0] 26))); have hOz := lt_of_block HO.out) | skip); have HdS := Lib.hid hdS; (first | (have HdR := Lib.hid (HdR.out.below hbR)) | (have HdR := Lib.hid ((HdR.out.below ((Below.refl _ _).alloc (Nat.le_refl _) _)).below hbR))); have hBw := below_nx (show Below w.heap.size w _ by go_grown) hbR; have hBW := below_nx (show Below w2.heap.size w2 _ by go_grown) hbR; have hSx := CB2.below hS hBW; have hzx := hBW.size; obtain ⟨pS, qS, rfl, -, -⟩ := hdS)
          | (go_at_call 23; (first | refine (Hsp.out _ _ _ _ _ HdR.out HdS.out).mono ?_ | refine (Hsp.out _ _ _ _ _ (HdR.out.below ((Below.refl _ _).alloc (Nat.le_refl _) _)) (HdS.out.below ((Below.refl _ _).alloc (Nat.le_refl _) _))).mono ?_); rintro e wT ⟨⟨vT, rfl, hdT⟩, hbR⟩; (first | (have HO := Lib.hid (below_blk hbR (lt_of_block HO.out) HO.out); have hOz := lt_of_block HO.out) | (have HO := Lib.hid (below_blk hbR (lt_of_block (heap_alloc_new _ (.cells #[.int .i64 0, .slice none 0 0] 26))) (heap_alloc_new _ (.cells #[.int .i64 0, .slice none 0 0] 26))); have hOz := lt_of_block HO.out) | skip); have HdT := Lib.hid hdT; have hBW := below_nx (show Below w2.heap.size w2 _ by go_grown) hbR; have hSx := CB2.below hS hBW; have hzx := hBW.size; obtain ⟨pT, qT, rfl, -, -⟩ := hdT; (first | (obtain ⟨o0, o1⟩ := blk_cells2 HO.out; have fO := (fun o => free_at HO.out o); have hOl := lt_of_block HO.out) | skip)))
      all_goals go_wp2_with fail
      all_goals go_meet
      all_goals first
        | (refine ⟨_, _, rfl, rfl, ?_, Lib.hid (heap_alloc_new wT _), Lib.hid ((HdT.out.below ((Below.refl _ _).alloc (Nat.le_refl _) _)).mono ?_), Lib.hid (hBW.alloc hBW.size _)⟩ <;> (first | omega | (simp; done) | (simp; omega)))
        | (refine ⟨_, _, rfl, rfl, ?_, Lib.hid (set2_at HO.out), Lib.hid ((sl_set1 (sl_set1 HdT.out ?_) ?_).mono ?_), Lib.hid (Below.setCell (Below.setCell hBW ?_ _) ?_ _)⟩ <;> (first | omega | (dsimp only; omega) | (simp; done) | (simp; omega)))
    case rest =>
    obtain ⟨O3, vO3, rfl, rfl, hO3, HBa, HD3, HW3⟩ := hcut
    obtain ⟨w3, hw3⟩ : ∃ x, x = wc := ⟨wc, rfl⟩
    subst hw3
    have hb3 := HW3.out
    have hOl3 := lt_of_block HBa.out
    have hd3 := HD3.out
    obtain ⟨pw0, qw0, rfl, -, -⟩ := id hd3
    have Hw0 := Lib.hid hd3.upto
    clear hS hBw hBW hsW HD3 HW3
    have Hb := Lib.hid (below_nx Hb.out hb3)
    have hz3 := hb3.size
    have HX := Lib.hid (below_blk hb3 (lt_of_block HX.out) HX.out)
    have HY := Lib.hid (below_blk hb3 (lt_of_block HY.out) HY.out)
    clear hb3 hd3
    clear cX0 cX1 lX
    obtain ⟨cX0, cX1⟩ := blk_cells2 HX.out
    have lX := lt_of_block HX.out
    clear cY0 cY1 lY
    obtain ⟨cY0, cY1⟩ := blk_cells2 HY.out
    have lY := lt_of_block HY.out
    obtain ⟨ba0, ba1⟩ := blk_cells2 HBa.out
    have bal := lt_of_block HBa.out
    go_wp2_with fail
    refine (Hto.out _ Hb.out).mono ?_
    rintro e w4 ⟨vx0, rfl, hd4, hb4⟩
    obtain ⟨px0, qx0, rfl, -, -⟩ := id hd4
    have Hx0 := Lib.hid hd4.upto
    have Hx0 := Lib.hid (Hx0.out.below ((Below.refl _ _).alloc (Nat.le_refl _) (.cells #[.int .i64 n, .slice px0 l.length qx0] 26)))
    have hy4 := hb4.size
    have hb4 := hb4.alloc hb4.size (.cells #[.int .i64 n, .slice px0 l.length qx0] 26)
    have Hw0 := Lib.hid (Hw0.out.below hb4)
    have Hb := Lib.hid (below_nx Hb.out hb4)
    have hz4 := hb4.size
    simp only [size_alloc1] at hz4
    have ha4 := size_alloc1 w4 (.cells #[.int .i64 n, .slice px0 l.length qx0] 26)
    have HX := Lib.hid (below_blk hb4 (lt_of_block HX.out) HX.out)
    have HY := Lib.hid (below_blk hb4 (lt_of_block HY.out) HY.out)
    have HBa := Lib.hid (below_blk hb4 (lt_of_block HBa.out) HBa.out)
    have HBo := Lib.hid (heap_alloc_new w4 (.cells #[.int .i64 n, .slice px0 l.length qx0] 26))
    clear hb4 hd4
    clear cX0 cX1 lX
    obtain ⟨cX0, cX1⟩ := blk_cells2 HX.out
    have lX := lt_of_block HX.out
    clear cY0 cY1 lY
    obtain ⟨cY0, cY1⟩ := blk_cells2 HY.out
    have lY := lt_of_block HY.out
    clear ba0 ba1 bal
    obtain ⟨ba0, ba1⟩ := blk_cells2 HBa.out
    have bal := lt_of_block HBa.out
    obtain ⟨bo0, bo1⟩ := blk_cells2 HBo.out
    have bol := lt_of_block HBo.out
    go_wp2_with fail
    refine (Hty.out _ Hb.out).mono ?_
    rintro e w5 ⟨vx1, rfl, hd5, hb5⟩
    obtain ⟨px1, qx1, rfl, -, -⟩ := id hd5
    have Hx1 := Lib.hid hd5.upto
    have Hx1 := Lib.hid (Hx1.out.below ((Below.refl _ _).alloc (Nat.le_refl _) (.cells #[.int .i64 m, .slice px1 k.length qx1] 26)))
    have hy5 := hb5.size
    have hb5 := hb5.alloc hb5.size (.cells #[.int .i64 m, .slice px1 k.length qx1] 26)
    have Hw0 := Lib.hid (Hw0.out.below hb5)
    have Hx0 := Lib.hid (Hx0.out.below hb5)
    have Hb := Lib.hid (below_nx Hb.out hb5)
    have hz5 := hb5.size
    simp only [size_alloc1] at hz5
    have ha5 := size_alloc1 w5 (.cells #[.int .i64 m, .slice px1 k.length qx1] 26)
    have HX := Lib.hid (below_blk hb5 (lt_of_block HX.out) HX.out)
    have HY := Lib.hid (below_blk hb5 (lt_of_block HY.out) HY.out)
    have HBa := Lib.hid (below_blk hb5 (lt_of_block HBa.out) HBa.out)
    have HBo := Lib.hid (below_blk hb5 (lt_of_block HBo.out) HBo.out)
    have HBb := Lib.hid (heap_alloc_new w5 (.cells #[.int .i64 m, .slice px1 k.length qx1] 26))
    clear hb5 hd5
    clear cX0 cX1 lX
    obtain ⟨cX0, cX1⟩ := blk_cells2 HX.out
    have lX := lt_of_block HX.out
    clear cY0 cY1 lY
    obtain ⟨cY0, cY1⟩ := blk_cells2 HY.out
    have lY := lt_of_block HY.out
    clear ba0 ba1 bal
    obtain ⟨ba0, ba1⟩ := blk_cells2 HBa.out
    have bal := lt_of_block HBa.out
    clear bo0 bo1 bol
    obtain ⟨bo0, bo1⟩ := blk_cells2 HBo.out
    have bol := lt_of_block HBo.out
    obtain ⟨bb0, bb1⟩ := blk_cells2 HBb.out
    have bbl := lt_of_block HBb.out
    go_wp2_with fail
    refine (Him.out _ _ _ _ _ Hx0.out.sl Hx1.out.sl).mono ?_
    rintro e w6 ⟨⟨vg, rfl, hd6⟩, hb6⟩
    obtain ⟨pg0, qg0, rfl, -, -⟩ := id hd6
    have Hg0 := Lib.hid hd6.upto
    have Hg0 := Lib.hid (Hg0.out.below ((Below.refl _ _).alloc (Nat.le_refl _) (.cells #[.int .i64 q, .slice pg0 r.length qg0] 26)))
    have hy6 := hb6.size
    have hb6 := hb6.alloc hb6.size (.cells #[.int .i64 q, .slice pg0 r.length qg0] 26)
    have Hw0 := Lib.hid (Hw0.out.below hb6)
    have Hx0 := Lib.hid (Hx0.out.below hb6)
    have Hx1 := Lib.hid (Hx1.out.below hb6)
    have Hb := Lib.hid (below_nx Hb.out hb6)
    have hz6 := hb6.size
    simp only [size_alloc1] at hz6
    have ha6 := size_alloc1 w6 (.cells #[.int .i64 q, .slice pg0 r.length qg0] 26)
    have HX := Lib.hid (below_blk hb6 (lt_of_block HX.out) HX.out)
    have HY := Lib.hid (below_blk hb6 (lt_of_block HY.out) HY.out)
    have HBa := Lib.hid (below_blk hb6 (lt_of_block HBa.out) HBa.out)
    have HBo := Lib.hid (below_blk hb6 (lt_of_block HBo.out) HBo.out)
    have HBb := Lib.hid (below_blk hb6 (lt_of_block HBb.out) HBb.out)
    have HBc := Lib.hid (heap_alloc_new w6 (.cells #[.int .i64 q, .slice pg0 r.length qg0] 26))
    clear hb6 hd6
    clear cX0 cX1 lX
    obtain ⟨cX0, cX1⟩ := blk_cells2 HX.out
    have lX := lt_of_block HX.out
    clear cY0 cY1 lY
    obtain ⟨cY0, cY1⟩ := blk_cells2 HY.out
    have lY := lt_of_block HY.out
    clear ba0 ba1 bal
    obtain ⟨ba0, ba1⟩ := blk_cells2 HBa.out
    have bal := lt_of_block HBa.out
    clear bo0 bo1 bol
    obtain ⟨bo0, bo1⟩ := blk_cells2 HBo.out
    have bol := lt_of_block HBo.out
    clear bb0 bb1 bbl
    obtain ⟨bb0, bb1⟩ := blk_cells2 HBb.out
    have bbl := lt_of_block HBb.out
    obtain ⟨bc0, bc1⟩ := blk_cells2 HBc.out
    have bcl := lt_of_block HBc.out
    go_wp2_with fail
    refine (eqCi _ _ q _ _ r _ Hg0.out.sl Hw0.out.sl hr).mono ?_
    rintro e w7 ⟨rfl, hb7⟩
    have Hw0 := Lib.hid (Hw0.out.below hb7)
    have Hx0 := Lib.hid (Hx0.out.below hb7)
    have Hx1 := Lib.hid (Hx1.out.below hb7)
    have Hg0 := Lib.hid (Hg0.out.below hb7)
    have Hb := Lib.hid (below_nx Hb.out hb7)
    have hz7 := hb7.size
    simp only [size_alloc1] at hz7
    have HX := Lib.hid (below_blk hb7 (lt_of_block HX.out) HX.out)
    have HY := Lib.hid (below_blk hb7 (lt_of_block HY.out) HY.out)
    have HBa := Lib.hid (below_blk hb7 (lt_of_block HBa.out) HBa.out)
    have HBo := Lib.hid (below_blk hb7 (lt_of_block HBo.out) HBo.out)
    have HBb := Lib.hid (below_blk hb7 (lt_of_block HBb.out) HBb.out)
    have HBc := Lib.hid (below_blk hb7 (lt_of_block HBc.out) HBc.out)
    clear hb7
    clear cX0 cX1 lX
    obtain ⟨cX0, cX1⟩ := blk_cells2 HX.out
    have lX := lt_of_block HX.out
    clear cY0 cY1 lY
    obtain ⟨cY0, cY1⟩ := blk_cells2 HY.out
    have lY := lt_of_block HY.out
    clear ba0 ba1 bal
    obtain ⟨ba0, ba1⟩ := blk_cells2 HBa.out
    have bal := lt_of_block HBa.out
    clear bo0 bo1 bol
    obtain ⟨bo0, bo1⟩ := blk_cells2 HBo.out
    have bol := lt_of_block HBo.out
    clear bb0 bb1 bbl
    obtain ⟨bb0, bb1⟩ := blk_cells2 HBb.out
    have bbl := lt_of_block HBb.out
    clear bc0 bc1 bcl
    obtain ⟨bc0, bc1⟩ := blk_cells2 HBc.out
    have bcl := lt_of_block HBc.out
    have hS : CB2 w7 (w.heap.size) w4.heap.size n n (.slice la l.length lc) (.slice px0 l.length qx0) w7 := ⟨cX0, cX1, bo0, bo1, lX, bol, Below.refl _ _⟩
    go_upto_region 14 with fail
    go_region_held3 (fun w' => w'.cell? ⟨w.heap.size, 0, none⟩ = some (.int .i64 n) ∧ w'.cell? ⟨w.heap.size, 1, none⟩ = some (.slice la l.length lc) ∧ w'.cell? ⟨w4.heap.size, 0, none⟩ = some (.int .i64 n) ∧ w'.cell? ⟨w4.heap.size, 1, none⟩ = some (.slice px0 l.length qx0) ∧ w.heap.size < w'.heap.size ∧ w4.heap.size < w'.heap.size ∧ Below w7.heap.size w7 w') (first | (show CB2 _ _ _ _ _ _ _ _; (with_reducible exact hS.drew)) | (show CB2 _ _ _ _ _ _ _ _; (with_reducible refine CB2.below ?_ hbR); first | assumption | exact ⟨by assumption, by assumption, by assumption, by assumption, by assumption, by assumption, by assumption⟩))
      (first
        | (go_at_call 32; refine (Hto.out _ Hb.out.drew).mono ?_; rintro e wR ⟨vR, rfl, hdR, hbR⟩; have HbR := Lib.hid (show Below w7.heap.size w7 wR from (Below.refl _ _).drew.trans hbR); have HdR := Lib.hid hdR; obtain ⟨pR, qR, rfl, -, -⟩ := hdR)
        | (go_at_call 33; refine (eqCi _ _ n _ _ l _ (Hx0.out.below HbR.out).sl HdR.out hnl).mono ?_; rintro e w8 ⟨rfl, hbR⟩; have HbQ := Lib.hid hbR))
    have hb8 : Below w7.heap.size w7 w8 := below_nx HbR.out HbQ.out
    clear hS HbR HbQ HdR
    have Hw0 := Lib.hid (Hw0.out.below hb8)
    have Hx0 := Lib.hid (Hx0.out.below hb8)
    have Hx1 := Lib.hid (Hx1.out.below hb8)
    have Hg0 := Lib.hid (Hg0.out.below hb8)
    have Hb := Lib.hid (below_nx Hb.out hb8)
    have hz8 := hb8.size
    have HX := Lib.hid (below_blk hb8 (lt_of_block HX.out) HX.out)
    have HY := Lib.hid (below_blk hb8 (lt_of_block HY.out) HY.out)
    have HBa := Lib.hid (below_blk hb8 (lt_of_block HBa.out) HBa.out)
    have HBo := Lib.hid (below_blk hb8 (lt_of_block HBo.out) HBo.out)
    have HBb := Lib.hid (below_blk hb8 (lt_of_block HBb.out) HBb.out)
    have HBc := Lib.hid (below_blk hb8 (lt_of_block HBc.out) HBc.out)
    clear hb8
    clear cX0 cX1 lX
    obtain ⟨cX0, cX1⟩ := blk_cells2 HX.out
    have lX := lt_of_block HX.out
    clear cY0 cY1 lY
    obtain ⟨cY0, cY1⟩ := blk_cells2 HY.out
    have lY := lt_of_block HY.out
    clear ba0 ba1 bal
    obtain ⟨ba0, ba1⟩ := blk_cells2 HBa.out
    have bal := lt_of_block HBa.out
    clear bo0 bo1 bol
    obtain ⟨bo0, bo1⟩ := blk_cells2 HBo.out
    have bol := lt_of_block HBo.out
    clear bb0 bb1 bbl
    obtain ⟨bb0, bb1⟩ := blk_cells2 HBb.out
    have bbl := lt_of_block HBb.out
    clear bc0 bc1 bcl
    obtain ⟨bc0, bc1⟩ := blk_cells2 HBc.out
    have bcl := lt_of_block HBc.out
    have hS : CB2 w8 (w.heap.size + 1) w5.heap.size m m (.slice ka k.length kc) (.slice px1 k.length qx1) w8 := ⟨cY0, cY1, bb0, bb1, lY, bbl, Below.refl _ _⟩
    go_upto_region 16 with fail
    go_region_held3 (fun w' => w'.cell? ⟨w.heap.size + 1, 0, none⟩ = some (.int .i64 m) ∧ w'.cell? ⟨w.heap.size + 1, 1, none⟩ = some (.slice ka k.length kc) ∧ w'.cell? ⟨w5.heap.size, 0, none⟩ = some (.int .i64 m) ∧ w'.cell? ⟨w5.heap.size, 1, none⟩ = some (.slice px1 k.length qx1) ∧ w.heap.size + 1 < w'.heap.size ∧ w5.heap.size < w'.heap.size ∧ Below w8.heap.size w8 w') (first | (show CB2 _ _ _ _ _ _ _ _; (with_reducible exact hS.drew)) | (show CB2 _ _ _ _ _ _ _ _; (with_reducible refine CB2.below ?_ hbR); first | assumption | exact ⟨by assumption, by assumption, by assumption, by assumption, by assumption, by assumption, by assumption⟩))
      (first
        | (go_at_call 32; refine (Hty.out _ Hb.out.drew).mono ?_; rintro e wR ⟨vR, rfl, hdR, hbR⟩; have HbR := Lib.hid (show Below w8.heap.size w8 wR from (Below.refl _ _).drew.trans hbR); have HdR := Lib.hid hdR; obtain ⟨pR, qR, rfl, -, -⟩ := hdR)
        | (go_at_call 33; refine (eqCi _ _ m _ _ k _ (Hx1.out.below HbR.out).sl HdR.out hnk).mono ?_; rintro e w9 ⟨rfl, hbR⟩; have HbQ := Lib.hid hbR))
    have hb9 : Below w8.heap.size w8 w9 := below_nx HbR.out HbQ.out
    clear hS HbR HbQ HdR
    have Hw0 := Lib.hid (Hw0.out.below hb9)
    have Hx0 := Lib.hid (Hx0.out.below hb9)
    have Hx1 := Lib.hid (Hx1.out.below hb9)
    have Hg0 := Lib.hid (Hg0.out.below hb9)
    have Hb := Lib.hid (below_nx Hb.out hb9)
    have hz9 := hb9.size
    have HX := Lib.hid (below_blk hb9 (lt_of_block HX.out) HX.out)
    have HY := Lib.hid (below_blk hb9 (lt_of_block HY.out) HY.out)
    have HBa := Lib.hid (below_blk hb9 (lt_of_block HBa.out) HBa.out)
    have HBo := Lib.hid (below_blk hb9 (lt_of_block HBo.out) HBo.out)
    have HBb := Lib.hid (below_blk hb9 (lt_of_block HBb.out) HBb.out)
    have HBc := Lib.hid (below_blk hb9 (lt_of_block HBc.out) HBc.out)
    clear hb9
    clear cX0 cX1 lX
    obtain ⟨cX0, cX1⟩ := blk_cells2 HX.out
    have lX := lt_of_block HX.out
    clear cY0 cY1 lY
    obtain ⟨cY0, cY1⟩ := blk_cells2 HY.out
    have lY := lt_of_block HY.out
    clear ba0 ba1 bal
    obtain ⟨ba0, ba1⟩ := blk_cells2 HBa.out
    have bal := lt_of_block HBa.out
    clear bo0 bo1 bol
    obtain ⟨bo0, bo1⟩ := blk_cells2 HBo.out
    have bol := lt_of_block HBo.out
    clear bb0 bb1 bbl
    obtain ⟨bb0, bb1⟩ := blk_cells2 HBb.out
    have bbl := lt_of_block HBb.out
    clear bc0 bc1 bcl
    obtain ⟨bc0, bc1⟩ := blk_cells2 HBc.out
    have bcl := lt_of_block HBc.out
    go_wp2_with fail
    refine (markCi1 _ _ n _ l _ Hx0.out (by omega) hnl).mono ?_
    rintro e w10 ⟨rfl, hd10, hm10⟩
    have Hw0 := Lib.hid (show gtE.Sc w10 _ _ _ _ by first | exact Hw0.out.lo hm10 (by omega) | exact Hw0.out.hi hm10 (by omega))
    have Hx1 := Lib.hid (show gtE.Sc w10 _ _ _ _ by first | exact Hx1.out.lo hm10 (by omega) | exact Hx1.out.hi hm10 (by omega))
    have Hg0 := Lib.hid (show gtE.Sc w10 _ _ _ _ by first | exact Hg0.out.lo hm10 (by omega) | exact Hg0.out.hi hm10 (by omega))
    have Hx0 := Lib.hid hd10
    have hz10 := hm10.1.size
    have Hb := Lib.hid (mid_low Hb.out hm10 (by omega))
    have HX := Lib.hid ((hm10.1.block (w.heap.size) (by omega)).trans HX.out)
    have HY := Lib.hid ((hm10.1.block (w.heap.size + 1) (by omega)).trans HY.out)
    have HBa := Lib.hid (show w10.heap[O3]? = _ by first | exact (hm10.1.block O3 (by omega)).trans HBa.out | exact (hm10.2 O3 (by omega) (lt_of_block HBa.out)).trans HBa.out)
    have HBo := Lib.hid (show w10.heap[w4.heap.size]? = _ by first | exact (hm10.1.block w4.heap.size (by omega)).trans HBo.out | exact (hm10.2 w4.heap.size (by omega) (lt_of_block HBo.out)).trans HBo.out)
    have HBb := Lib.hid (show w10.heap[w5.heap.size]? = _ by first | exact (hm10.1.block w5.heap.size (by omega)).trans HBb.out | exact (hm10.2 w5.heap.size (by omega) (lt_of_block HBb.out)).trans HBb.out)
    have HBc := Lib.hid (show w10.heap[w6.heap.size]? = _ by first | exact (hm10.1.block w6.heap.size (by omega)).trans HBc.out | exact (hm10.2 w6.heap.size (by omega) (lt_of_block HBc.out)).trans HBc.out)
    clear hd10 hm10
    clear cX0 cX1 lX
    obtain ⟨cX0, cX1⟩ := blk_cells2 HX.out
    have lX := lt_of_block HX.out
    clear cY0 cY1 lY
    obtain ⟨cY0, cY1⟩ := blk_cells2 HY.out
    have lY := lt_of_block HY.out
    clear ba0 ba1 bal
    obtain ⟨ba0, ba1⟩ := blk_cells2 HBa.out
    have bal := lt_of_block HBa.out
    clear bo0 bo1 bol
    obtain ⟨bo0, bo1⟩ := blk_cells2 HBo.out
    have bol := lt_of_block HBo.out
    clear bb0 bb1 bbl
    obtain ⟨bb0, bb1⟩ := blk_cells2 HBb.out
    have bbl := lt_of_block HBb.out
    clear bc0 bc1 bcl
    obtain ⟨bc0, bc1⟩ := blk_cells2 HBc.out
    have bcl := lt_of_block HBc.out
    go_wp2_with fail
    refine (HmC.out _ _ _ _ Hx1.out (by omega)).mono ?_
    rintro e w11 ⟨rfl, hd11, hm11⟩
    have Hw0 := Lib.hid (show gtE.Sc w11 _ _ _ _ by first | exact Hw0.out.lo hm11 (by omega) | exact Hw0.out.hi hm11 (by omega))
    have Hg0 := Lib.hid (show gtE.Sc w11 _ _ _ _ by first | exact Hg0.out.lo hm11 (by omega) | exact Hg0.out.hi hm11 (by omega))
    have Hx1 := Lib.hid hd11
    have hz11 := hm11.1.size
    have Hb := Lib.hid (mid_low Hb.out hm11 (by omega))
    have HX := Lib.hid ((hm11.1.block (w.heap.size) (by omega)).trans HX.out)
    have HY := Lib.hid ((hm11.1.block (w.heap.size + 1) (by omega)).trans HY.out)
    have HBa := Lib.hid (show w11.heap[O3]? = _ by first | exact (hm11.1.block O3 (by omega)).trans HBa.out | exact (hm11.2 O3 (by omega) (lt_of_block HBa.out)).trans HBa.out)
    have HBo := Lib.hid (show w11.heap[w4.heap.size]? = _ by first | exact (hm11.1.block w4.heap.size (by omega)).trans HBo.out | exact (hm11.2 w4.heap.size (by omega) (lt_of_block HBo.out)).trans HBo.out)
    have HBb := Lib.hid (show w11.heap[w5.heap.size]? = _ by first | exact (hm11.1.block w5.heap.size (by omega)).trans HBb.out | exact (hm11.2 w5.heap.size (by omega) (lt_of_block HBb.out)).trans HBb.out)
    have HBc := Lib.hid (show w11.heap[w6.heap.size]? = _ by first | exact (hm11.1.block w6.heap.size (by omega)).trans HBc.out | exact (hm11.2 w6.heap.size (by omega) (lt_of_block HBc.out)).trans HBc.out)
    clear hd11 hm11
    clear cX0 cX1 lX
    obtain ⟨cX0, cX1⟩ := blk_cells2 HX.out
    have lX := lt_of_block HX.out
    clear cY0 cY1 lY
    obtain ⟨cY0, cY1⟩ := blk_cells2 HY.out
    have lY := lt_of_block HY.out
    clear ba0 ba1 bal
    obtain ⟨ba0, ba1⟩ := blk_cells2 HBa.out
    have bal := lt_of_block HBa.out
    clear bo0 bo1 bol
    obtain ⟨bo0, bo1⟩ := blk_cells2 HBo.out
    have bol := lt_of_block HBo.out
    clear bb0 bb1 bbl
    obtain ⟨bb0, bb1⟩ := blk_cells2 HBb.out
    have bbl := lt_of_block HBb.out
    clear bc0 bc1 bcl
    obtain ⟨bc0, bc1⟩ := blk_cells2 HBc.out
    have bcl := lt_of_block HBc.out
    go_wp2_with fail
    refine (eqCi _ _ q _ _ r _ Hg0.out.sl Hw0.out.sl hr).mono ?_
    rintro e w12 ⟨rfl, hb12⟩
    have Hw0 := Lib.hid (Hw0.out.below hb12)
    have Hg0 := Lib.hid (Hg0.out.below hb12)
    have Hb := Lib.hid (below_nx Hb.out hb12)
    have hz12 := hb12.size
    have HX := Lib.hid (below_blk hb12 (lt_of_block HX.out) HX.out)
    have HY := Lib.hid (below_blk hb12 (lt_of_block HY.out) HY.out)
    have HBa := Lib.hid (below_blk hb12 (lt_of_block HBa.out) HBa.out)
    have HBo := Lib.hid (below_blk hb12 (lt_of_block HBo.out) HBo.out)
    have HBb := Lib.hid (below_blk hb12 (lt_of_block HBb.out) HBb.out)
    have HBc := Lib.hid (below_blk hb12 (lt_of_block HBc.out) HBc.out)
    clear hb12
    clear cX0 cX1 lX
    obtain ⟨cX0, cX1⟩ := blk_cells2 HX.out
    have lX := lt_of_block HX.out
    clear cY0 cY1 lY
    obtain ⟨cY0, cY1⟩ := blk_cells2 HY.out
    have lY := lt_of_block HY.out
    clear ba0 ba1 bal
    obtain ⟨ba0, ba1⟩ := blk_cells2 HBa.out
    have bal := lt_of_block HBa.out
    clear bo0 bo1 bol
    obtain ⟨bo0, bo1⟩ := blk_cells2 HBo.out
    have bol := lt_of_block HBo.out
    clear bb0 bb1 bbl
    obtain ⟨bb0, bb1⟩ := blk_cells2 HBb.out
    have bbl := lt_of_block HBb.out
    clear bc0 bc1 bcl
    obtain ⟨bc0, bc1⟩ := blk_cells2 HBc.out
    have bcl := lt_of_block HBc.out
    go_wp2_with fail
    refine (markCi1 _ _ q _ r _ Hg0.out (by omega) hr).mono ?_
    rintro e w13 ⟨rfl, hd13, hm13⟩
    have Hw0 := Lib.hid (show gtE.Sc w13 _ _ _ _ by first | exact Hw0.out.lo hm13 (by omega) | exact Hw0.out.hi hm13 (by omega))
    have Hg0 := Lib.hid hd13
    have hz13 := hm13.1.size
    have Hb := Lib.hid (mid_low Hb.out hm13 (by omega))
    have HX := Lib.hid ((hm13.1.block (w.heap.size) (by omega)).trans HX.out)
    have HY := Lib.hid ((hm13.1.block (w.heap.size + 1) (by omega)).trans HY.out)
    have HBa := Lib.hid (show w13.heap[O3]? = _ by first | exact (hm13.1.block O3 (by omega)).trans HBa.out | exact (hm13.2 O3 (by omega) (lt_of_block HBa.out)).trans HBa.out)
    have HBo := Lib.hid (show w13.heap[w4.heap.size]? = _ by first | exact (hm13.1.block w4.heap.size (by omega)).trans HBo.out | exact (hm13.2 w4.heap.size (by omega) (lt_of_block HBo.out)).trans HBo.out)
    have HBb := Lib.hid (show w13.heap[w5.heap.size]? = _ by first | exact (hm13.1.block w5.heap.size (by omega)).trans HBb.out | exact (hm13.2 w5.heap.size (by omega) (lt_of_block HBb.out)).trans HBb.out)
    have HBc := Lib.hid (show w13.heap[w6.heap.size]? = _ by first | exact (hm13.1.block w6.heap.size (by omega)).trans HBc.out | exact (hm13.2 w6.heap.size (by omega) (lt_of_block HBc.out)).trans HBc.out)
    clear hd13 hm13
    clear cX0 cX1 lX
    obtain ⟨cX0, cX1⟩ := blk_cells2 HX.out
    have lX := lt_of_block HX.out
    clear cY0 cY1 lY
    obtain ⟨cY0, cY1⟩ := blk_cells2 HY.out
    have lY := lt_of_block HY.out
    clear ba0 ba1 bal
    obtain ⟨ba0, ba1⟩ := blk_cells2 HBa.out
    have bal := lt_of_block HBa.out
    clear bo0 bo1 bol
    obtain ⟨bo0, bo1⟩ := blk_cells2 HBo.out
    have bol := lt_of_block HBo.out
    clear bb0 bb1 bbl
    obtain ⟨bb0, bb1⟩ := blk_cells2 HBb.out
    have bbl := lt_of_block HBb.out
    clear bc0 bc1 bcl
    obtain ⟨bc0, bc1⟩ := blk_cells2 HBc.out
    have bcl := lt_of_block HBc.out
    go_wp2_with fail
    refine (heldCi1 _ r.length q _ _ Hg0.out.sl hr).mono ?_
    rintro e w14 ⟨rfl, hb14⟩
    have Hw0 := Lib.hid (Hw0.out.below hb14)
    have Hg0 := Lib.hid (Hg0.out.below hb14)
    have Hb := Lib.hid (below_nx Hb.out hb14)
    have hz14 := hb14.size
    have HX := Lib.hid (below_blk hb14 (lt_of_block HX.out) HX.out)
    have HY := Lib.hid (below_blk hb14 (lt_of_block HY.out) HY.out)
    have HBa := Lib.hid (below_blk hb14 (lt_of_block HBa.out) HBa.out)
    have HBo := Lib.hid (below_blk hb14 (lt_of_block HBo.out) HBo.out)
    have HBb := Lib.hid (below_blk hb14 (lt_of_block HBb.out) HBb.out)
    have HBc := Lib.hid (below_blk hb14 (lt_of_block HBc.out) HBc.out)
    clear hb14
    clear cX0 cX1 lX
    obtain ⟨cX0, cX1⟩ := blk_cells2 HX.out
    have lX := lt_of_block HX.out
    clear cY0 cY1 lY
    obtain ⟨cY0, cY1⟩ := blk_cells2 HY.out
    have lY := lt_of_block HY.out
    clear ba0 ba1 bal
    obtain ⟨ba0, ba1⟩ := blk_cells2 HBa.out
    have bal := lt_of_block HBa.out
    clear bo0 bo1 bol
    obtain ⟨bo0, bo1⟩ := blk_cells2 HBo.out
    have bol := lt_of_block HBo.out
    clear bb0 bb1 bbl
    obtain ⟨bb0, bb1⟩ := blk_cells2 HBb.out
    have bbl := lt_of_block HBb.out
    clear bc0 bc1 bcl
    obtain ⟨bc0, bc1⟩ := blk_cells2 HBc.out
    have bcl := lt_of_block HBc.out
    have hS : CB2 w14 (w.heap.size) (w.heap.size + 1) n m (.slice la l.length lc) (.slice ka k.length kc) w14 := ⟨cX0, cX1, cY0, cY1, lX, lY, Below.refl _ _⟩
    have hBw := Hb.out
    have hBW := Below.refl w14.heap.size w14
    have hsW := Hb.out.size
    go_upto_region 31 with fail
    go_cut [15, 16] from 94 to 101 (fun s6 s7 wx => ∃ (O : Nat) (vw : Value), s6 = .pointer (some ⟨O, 0, none⟩) ∧ s7 = .bool t ∧ w14.heap.size ≤ O ∧ Hid (wx.heap[O]? = some (.cells #[.int .i64 q, vw] 26 (0, 0))) ∧ Hid (gtE.Sl wx w14.heap.size vw r) ∧ Hid (Below w14.heap.size w14 wx))
    case first =>
      go_region_held3 (fun w' => w'.cell? ⟨w.heap.size, 0, none⟩ = some (.int .i64 n) ∧ w'.cell? ⟨w.heap.size, 1, none⟩ = some (.slice la l.length lc) ∧ w'.cell? ⟨w.heap.size + 1, 0, none⟩ = some (.int .i64 m) ∧ w'.cell? ⟨w.heap.size + 1, 1, none⟩ = some (.slice ka k.length kc) ∧ w.heap.size < w'.heap.size ∧ w.heap.size + 1 < w'.heap.size ∧ Below w14.heap.size w14 w') (first | (show CB2 _ _ _ _ _ _ _ _; (with_reducible exact hS.drew)) | (show CB2 _ _ _ _ _ _ _ _; (with_reducible exact (CB2.alloc hS).drew)) | (show CB2 _ _ _ _ _ _ _ _; (with_reducible refine CB2.below ?_ hbR); first | assumption | exact ⟨by assumption, by assumption, by assumption, by assumption, by assumption, by assumption, by assumption⟩) | (show CB2 _ _ _ _ _ _ _ _; (with_reducible exact hSx)) | (show CB2 _ _ _ _ _ _ _ _; (with_reducible exact CB2.alloc hSx)) | (show CB2 _ _ _ _ _ _ _ _; (with_reducible refine CB2.alloc ?_); first | assumption | exact ⟨by assumption, by assumption, by assumption, by assumption, by assumption, by assumption, by assumption⟩) | (show CB2 _ _ _ _ _ _ _ _; (with_reducible refine CB2.set (CB2.set ?_ (by omega) (by omega) (by omega)) (by omega) (by omega) (by omega)); first | (with_reducible exact hSx) | (with_reducible exact CB2.alloc hSx)))
        (first
          | (go_at_call 32; (with_reducible refine (Hto.out _ ?hb).mono ?_); (case hb => go_grown); rintro e wR ⟨vR, rfl, hdR, hbR⟩; (first | (have HO := Lib.hid (below_blk hbR (lt_of_block HO.out) HO.out); have hOz := lt_of_block HO.out) | (have HO := Lib.hid (below_blk hbR (lt_of_block (heap_alloc_new _ (.cells #[.int .i64 0, .slice none 0 0] 26))) (heap_alloc_new _ (.cells #[.int .i64 0, .slice none 0 0] 26))); have hOz := lt_of_block HO.out) | skip); have HdR := Lib.hid hdR; have hBw := below_nx (show Below w.heap.size w _ by go_grown) hbR; have hBW := below_nx (show Below w14.heap.size w14 _ by go_grown) hbR; have hSx := CB2.below hS hBW; have hzx := hBW.size; obtain ⟨pR, qR, rfl, -, -⟩ := hdR)
          | (go_at_call 32; (with_reducible refine (Hty.out _ ?hb).mono ?_); (case hb => go_grown); rintro e wS ⟨vS, rfl, hdS, hbR⟩; (first | (have HO := Lib.hid (below_blk hbR (lt_of_block HO.out) HO.out); have hOz := lt_of_block HO.out) | (have HO := Lib.hid (below_blk hbR (lt_of_block (heap_alloc_new _ (.cells #[.int .i64 0, .slice none 0 0] 26))) (heap_alloc_new _ (.cells #[.int .i64 0, .slice none 0 0] 26))); have hOz := lt_of_block HO.out) | skip); have HdS := Lib.hid hdS; (first | (have HdR := Lib.hid (HdR.out.below hbR)) | (have HdR := Lib.hid ((HdR.out.below ((Below.refl _ _).alloc (Nat.le_refl _) _)).below hbR))); have hBw := below_nx (show Below w.heap.size w _ by go_grown) hbR; have hBW := below_nx (show Below w14.heap.size w14 _ by go_grown) hbR; have hSx := CB2.below hS hBW; have hzx := hBW.size; obtain ⟨pS, qS, rfl, -, -⟩ := hdS)
          | (go_at_call 18; (first | refine (Him.out _ _ _ _ _ HdR.out HdS.out).mono ?_ | refine (Him.out _ _ _ _ _ (HdR.out.below ((Below.refl _ _).alloc (Nat.le_refl _) _)) (HdS.out.below ((Below.refl _ _).alloc (Nat.le_refl _) _))).mono ?_); rintro e wT ⟨⟨vT, rfl, hdT⟩, hbR⟩; (first | (have HO := Lib.hid (below_blk hbR (lt_of_block HO.out) HO.out); have hOz := lt_of_block HO.out) | (have HO := Lib.hid (below_blk hbR (lt_of_block (heap_alloc_new _ (.cells #[.int .i64 0, .slice none 0 0] 26))) (heap_alloc_new _ (.cells #[.int .i64 0, .slice none 0 0] 26))); have hOz := lt_of_block HO.out) | skip); have HdT := Lib.hid hdT; have hBW := below_nx (show Below w14.heap.size w14 _ by go_grown) hbR; have hSx := CB2.below hS hBW; have hzx := hBW.size; obtain ⟨pT, qT, rfl, -, -⟩ := hdT; (first | (obtain ⟨o0, o1⟩ := blk_cells2 HO.out; have fO := (fun o => free_at HO.out o); have hOl := lt_of_block HO.out) | skip)))
      all_goals go_wp2_with fail
      all_goals go_meet
      all_goals first
        | (refine ⟨_, _, rfl, rfl, ?_, Lib.hid (heap_alloc_new wT _), Lib.hid ((HdT.out.below ((Below.refl _ _).alloc (Nat.le_refl _) _)).mono ?_), Lib.hid (hBW.alloc hBW.size _)⟩ <;> (first | omega | (simp; done) | (simp; omega)))
        | (refine ⟨_, _, rfl, rfl, ?_, Lib.hid (set2_at HO.out), Lib.hid ((sl_set1 (sl_set1 HdT.out ?_) ?_).mono ?_), Lib.hid (Below.setCell (Below.setCell hBW ?_ _) ?_ _)⟩ <;> (first | omega | (dsimp only; omega) | (simp; done) | (simp; omega)))
    case rest =>
    obtain ⟨O15, vO15, rfl, rfl, hO15, HBe, HD15, HW15⟩ := hcut
    obtain ⟨w15, hw15⟩ : ∃ x, x = wc := ⟨wc, rfl⟩
    subst hw15
    have hb15 := HW15.out
    have hOl15 := lt_of_block HBe.out
    have hd15 := HD15.out
    obtain ⟨ph0, qh0, rfl, -, -⟩ := id hd15
    have Hh0 := Lib.hid hd15.upto
    clear hS hBw hBW hsW HD15 HW15
    have Hw0 := Lib.hid (Hw0.out.below hb15)
    have Hg0 := Lib.hid (Hg0.out.below hb15)
    have Hb := Lib.hid (below_nx Hb.out hb15)
    have hz15 := hb15.size
    have HX := Lib.hid (below_blk hb15 (lt_of_block HX.out) HX.out)
    have HY := Lib.hid (below_blk hb15 (lt_of_block HY.out) HY.out)
    have HBa := Lib.hid (below_blk hb15 (lt_of_block HBa.out) HBa.out)
    have HBo := Lib.hid (below_blk hb15 (lt_of_block HBo.out) HBo.out)
    have HBb := Lib.hid (below_blk hb15 (lt_of_block HBb.out) HBb.out)
    have HBc := Lib.hid (below_blk hb15 (lt_of_block HBc.out) HBc.out)
    clear hb15 hd15
    clear cX0 cX1 lX
    obtain ⟨cX0, cX1⟩ := blk_cells2 HX.out
    have lX := lt_of_block HX.out
    clear cY0 cY1 lY
    obtain ⟨cY0, cY1⟩ := blk_cells2 HY.out
    have lY := lt_of_block HY.out
    clear ba0 ba1 bal
    obtain ⟨ba0, ba1⟩ := blk_cells2 HBa.out
    have bal := lt_of_block HBa.out
    clear bo0 bo1 bol
    obtain ⟨bo0, bo1⟩ := blk_cells2 HBo.out
    have bol := lt_of_block HBo.out
    clear bb0 bb1 bbl
    obtain ⟨bb0, bb1⟩ := blk_cells2 HBb.out
    have bbl := lt_of_block HBb.out
    clear bc0 bc1 bcl
    obtain ⟨bc0, bc1⟩ := blk_cells2 HBc.out
    have bcl := lt_of_block HBc.out
    obtain ⟨be0, be1⟩ := blk_cells2 HBe.out
    have bel := lt_of_block HBe.out
    go_wp2_with fail
    refine (eqCi _ _ q _ _ r _ Hh0.out.sl Hw0.out.sl hr).mono ?_
    rintro e w16 ⟨rfl, hb16⟩
    have Hw0 := Lib.hid (Hw0.out.below hb16)
    have Hg0 := Lib.hid (Hg0.out.below hb16)
    have Hh0 := Lib.hid (Hh0.out.below hb16)
    have Hb := Lib.hid (below_nx Hb.out hb16)
    have hz16 := hb16.size
    have HX := Lib.hid (below_blk hb16 (lt_of_block HX.out) HX.out)
    have HY := Lib.hid (below_blk hb16 (lt_of_block HY.out) HY.out)
    have HBa := Lib.hid (below_blk hb16 (lt_of_block HBa.out) HBa.out)
    have HBo := Lib.hid (below_blk hb16 (lt_of_block HBo.out) HBo.out)
    have HBb := Lib.hid (below_blk hb16 (lt_of_block HBb.out) HBb.out)
    have HBc := Lib.hid (below_blk hb16 (lt_of_block HBc.out) HBc.out)
    have HBe := Lib.hid (below_blk hb16 (lt_of_block HBe.out) HBe.out)
    clear hb16
    clear cX0 cX1 lX
    obtain ⟨cX0, cX1⟩ := blk_cells2 HX.out
    have lX := lt_of_block HX.out
    clear cY0 cY1 lY
    obtain ⟨cY0, cY1⟩ := blk_cells2 HY.out
    have lY := lt_of_block HY.out
    clear ba0 ba1 bal
    obtain ⟨ba0, ba1⟩ := blk_cells2 HBa.out
    have bal := lt_of_block HBa.out
    clear bo0 bo1 bol
    obtain ⟨bo0, bo1⟩ := blk_cells2 HBo.out
    have bol := lt_of_block HBo.out
    clear bb0 bb1 bbl
    obtain ⟨bb0, bb1⟩ := blk_cells2 HBb.out
    have bbl := lt_of_block HBb.out
    clear bc0 bc1 bcl
    obtain ⟨bc0, bc1⟩ := blk_cells2 HBc.out
    have bcl := lt_of_block HBc.out
    clear be0 be1 bel
    obtain ⟨be0, be1⟩ := blk_cells2 HBe.out
    have bel := lt_of_block HBe.out
    go_wp2_with fail
    refine (heldCi1 _ r.length q _ _ Hg0.out.sl hr).mono ?_
    rintro e w17 ⟨rfl, hb17⟩
    have Hw0 := Lib.hid (Hw0.out.below hb17)
    have Hg0 := Lib.hid (Hg0.out.below hb17)
    have Hh0 := Lib.hid (Hh0.out.below hb17)
    have Hb := Lib.hid (below_nx Hb.out hb17)
    have hz17 := hb17.size
    have HX := Lib.hid (below_blk hb17 (lt_of_block HX.out) HX.out)
    have HY := Lib.hid (below_blk hb17 (lt_of_block HY.out) HY.out)
    have HBa := Lib.hid (below_blk hb17 (lt_of_block HBa.out) HBa.out)
    have HBo := Lib.hid (below_blk hb17 (lt_of_block HBo.out) HBo.out)
    have HBb := Lib.hid (below_blk hb17 (lt_of_block HBb.out) HBb.out)
    have HBc := Lib.hid (below_blk hb17 (lt_of_block HBc.out) HBc.out)
    have HBe := Lib.hid (below_blk hb17 (lt_of_block HBe.out) HBe.out)
    clear hb17
    clear cX0 cX1 lX
    obtain ⟨cX0, cX1⟩ := blk_cells2 HX.out
    have lX := lt_of_block HX.out
    clear cY0 cY1 lY
    obtain ⟨cY0, cY1⟩ := blk_cells2 HY.out
    have lY := lt_of_block HY.out
    clear ba0 ba1 bal
    obtain ⟨ba0, ba1⟩ := blk_cells2 HBa.out
    have bal := lt_of_block HBa.out
    clear bo0 bo1 bol
    obtain ⟨bo0, bo1⟩ := blk_cells2 HBo.out
    have bol := lt_of_block HBo.out
    clear bb0 bb1 bbl
    obtain ⟨bb0, bb1⟩ := blk_cells2 HBb.out
    have bbl := lt_of_block HBb.out
    clear bc0 bc1 bcl
    obtain ⟨bc0, bc1⟩ := blk_cells2 HBc.out
    have bcl := lt_of_block HBc.out
    clear be0 be1 bel
    obtain ⟨be0, be1⟩ := blk_cells2 HBe.out
    have bel := lt_of_block HBe.out
    go_wp2_with fail
    go_ret
    exact ⟨rfl, Hb.out⟩
  · clear hin hik
    by_cases hnl : l.length ≤ 1048576
    · go_enter Try.func8, Try.ntmps8
      go_wp2_with fail
      refine (szCiFit n la l.length lc 1048576 _ (by omega) (by omega) (by omega)).mono ?_
      rintro e w1 ⟨rfl, hb1⟩
      have HY := Lib.hid (below_blk hb1 (lt_of_block HY.out) HY.out)
      have Hb := Lib.hid (below_nx Hb.out hb1)
      clear cX0 cX1 lX cY0 cY1 lY hb1
      obtain ⟨cY0, cY1⟩ := blk_cells2 HY.out
      have lY := lt_of_block HY.out
      go_wp2_with fail
      refine (szCiBig m ka k.length kc _ _ hmk (by omega) (by omega) (by omega)).mono ?_
      rintro e w2 ⟨rfl, hb2⟩
      have Hb := Lib.hid (below_nx Hb.out hb2)
      clear hb2
      go_wp2_with fail
      go_ret
      exact ⟨rfl, Hb.out⟩
    · go_enter Try.func8, Try.ntmps8
      go_wp2_with fail
      refine (szCiBig n la l.length lc 1048576 _ hm (by omega) (by omega) (by omega)).mono ?_
      rintro e w1 ⟨rfl, hb1⟩
      have Hb := Lib.hid (below_nx Hb.out hb1)
      clear hb1
      go_wp2_with fail
      go_ret
      exact ⟨rfl, Hb.out⟩
open Go.ChangeMaps (open_string shut_string)
theorem laidOut : laidOutB Try.prog = true := by kernel_rfl
theorem own : ownKnob Try.prog.godebug = none := by kernel_rfl
set_option maxRecDepth 100000 in
/-- What the walk gives, for every argument. -/
theorem contract (H : Type) (enc : TypeId × Value → H) (W : World) (base : Nat) (args : Array Value) (ds gs : List (DataW H)) (before : List MemPlace)
    (hval : ∀ (j : Nat) t v, Try.f8.params[j]? = some t → args[j]? = some v → Value.okWide Try.prog W .any base t v)
    (hW : DataW.Whole enc Try.prog Try.f8.params.toList Rows.fnExactConcatCircuitsSpec.vars false W args.toList ds gs before) :
    Calls Try.prog 8 args W fun e W' => ∃ v, e = .returned v ∧ Rows.fnExactConcatCircuitsSpec.post enc Try.prog Try.f8 false true false false W args v W' := by
  have hW' := hW
  obtain ⟨p, q, hA0, hV, rfl, hfz, hnd⟩ := hW
  have hA : DataW.TrodAll enc Try.prog W 0 (fun _ => true) true Try.f8.params.toList args.toList ds p := hA0
  rw [Try.params8] at hA hval
  obtain ⟨v0, vs0, d0, ds0, p0, q0, hargs, rfl, rfl, h0, r0⟩ := trodAll_cons hA
  obtain ⟨v1, vs1, d1, ds1, p1, q1, rfl, rfl, rfl, h1, r1⟩ := trodAll_cons r0
  obtain ⟨rfl, rfl, rfl⟩ := trodAll_nil r1
  obtain rfl : args = #[v0, v1] := by cases args; simp_all
  obtain ⟨rfl, rfl⟩ := trodVars_none hV
  have k0 := h0
  have lt0 : ∀ x ∈ p0, x.block < W.heap.size := by obtain ⟨m, hm⟩ := k0; exact DataW.trod_lt m _ _ _ hm
  obtain ⟨l0, l1, ly0, ly1, lm, rfl, rfl, rfl, lt0, lt1⟩ := Go.Joins.open_agg2 Try.underlying50 (by kernel_rfl) (by kernel_rfl) (hval 0 50 v0 rfl rfl) h0
  obtain ⟨lN, ela, -, wlN⟩ := DataW.trod_int Try.underlying3 lt0
  obtain rfl := List.head_eq_of_cons_eq ela
  obtain ⟨la, lc, l, rfl, lh⟩ := open_gs1 lt1
  clear ela lt0 lt1
  have k1 := h1
  have lt1 : ∀ x ∈ p1, x.block < W.heap.size := by obtain ⟨m, hm⟩ := k1; exact DataW.trod_lt m _ _ _ hm
  obtain ⟨k0, k1, ky0, ky1, km, rfl, rfl, rfl, kt0, kt1⟩ := Go.Joins.open_agg2 Try.underlying50 (by kernel_rfl) (by kernel_rfl) (hval 1 50 v1 rfl rfl) h1
  obtain ⟨kN, eka, -, wkN⟩ := DataW.trod_int Try.underlying3 kt0
  obtain rfl := List.head_eq_of_cons_eq eka
  obtain ⟨ka, kc, k, rfl, kh⟩ := open_gs1 kt1
  clear eka kt0 kt1
  clear hA0
  simp only [List.append_nil] at hW'
  refine (walk lN la lc l kN ka kc k W (bounds_i64 wlN).1 (bounds_i64 wlN).2 lh (bounds_i64 wkN).1 (bounds_i64 wkN).2 kh).mono fun e W' ⟨he, hg⟩ => ?_
  subst he
  exact ⟨_, rfl, _, _, _, [], _, [], hW', trodAll_mk1 (shut_bool Try.underlying4 _), (trodAll_cons_mk (Below.trod laidOut (by kernel_rfl) (of_decide_eq_true (by kernel_rfl)) k0 hg lt0) (trodAll_cons_mk (Below.trod laidOut (by kernel_rfl) (of_decide_eq_true (by kernel_rfl)) k1 hg lt1) trodAll_mk0)), rfl, hg.frame _, fun h => by cases h⟩
set_option maxRecDepth 100000 in
theorem lifted (os : Os) (started : os.Started) (H : Type) (enc : TypeId × Value → H) :
    ReturnsInHanded {} Try.checked os 8 .any (Rows.fnExactConcatCircuitsSpec.pre6 enc Try.prog Try.f8 Rows.fnExactConcatCircuitsRow.domain false) (Rows.fnExactConcatCircuitsSpec.post enc Try.prog Try.f8 false true false false) := by
  refine returnsInHanded_of_change (C := Try.checked) own started (by kernel_rfl) Try.func8
    (ChangeSpec.witness6 (enc := enc) (C := Try.checked) false ⟨#[], #[.agg #[.int .i64 0, .slice none 0 0], .agg #[.int .i64 0, .slice none 0 0]], []⟩ 8 (by kernel_rfl) (by kernel_rfl) (by kernel_rfl) (by kernel_rfl)) ?_
  intro W base args ds gs before hval hW _ _
  exact contract H enc W base args ds gs before hval hW
theorem closedFacts : joinedFacts Try.pinned.checked.prog 8 Try.f8 Rows.fnExactConcatCircuitsSpec Rows.fnExactConcatCircuitsRow = true := by
  unfold joinedFacts
  rw [init_may, init_facts.2.1, init_facts.2.2]
  kernel_rfl
theorem said : Rows.FnExactConcatCircuitsSaid :=
  OpenClaim.holds_of_wide 8 Try.f8 rfl rfl rfl rfl rfl rfl rfl ⟨rfl, rfl, rfl, rfl, rfl⟩ rfl rfl rfl rfl rfl (by kernel_rfl) Try.func8 closedFacts
    (of_decide_eq_true (by kernel_rfl)) (by unfold Func.isWrapper; first | (rw [if_pos (by decide +kernel)]; kernel_rfl) | (rw [if_neg (by decide +kernel)]; exact ⟨rfl, rfl⟩))
    (fun os started H enc _ => lifted os started H enc)
end Go.Proofs.Ytmpafidkpangeaa.fnExactConcatCircuits
