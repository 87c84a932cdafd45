/- The law FnExactEqualCircuit: EqualCircuit answers as its model, at every two circuits. No condition. -/
import Derived.Test.YtmpafidkpangeaaInit
import Derived.Test.YtmpafidkpangeaaBaseB20
import Derived.Test.YtmpafidkpangeaaBaseB26
import Derived.Test.YtmpafidkpangeaaBaseB24
import Derived.Test.YtmpafidkpangeaaBaseB13
import Derived.Test.YtmpafidkpangeaaBaseB09
import Derived.Lib.SmallJoins
import Derived.WalkKit
import Derived.ProofKit
import Derived.OpenShut
import Derived.Deep.DeepHandedRow
import Derived.Lib.LaidTab
import Derived.LaidMore
import Derived.LaidHandle
import Derived.Lay
import Derived.Stop.LaidErr
namespace Go.Proofs.Ytmpafidkpangeaa.fnExactEqualCircuit
open Go.ChangeShapes Go.WideShapes Go.ChangeAt Go.RowKit Go.Lib
attribute [local irreducible] World.cell?
set_option maxRecDepth 100000 in
set_option maxHeartbeats 6400000 in
theorem walk (n : Int) (la : Option Addr) (lc : Nat) (l : List Gt) (m : Int) (ka : Option Addr) (kc : Nat) (k : List Gt) (w : World) (n0 : -9223372036854775808 ≤ n) (n1 : n ≤ 9223372036854775807) (hin : GsIn w w.heap.size la l) (_ : -9223372036854775808 ≤ m) (_ : m ≤ 9223372036854775807) (hik : GsIn w w.heap.size ka k) :
    Calls Try.prog 10 #[.agg #[.int .i64 n, .slice la l.length lc], .agg #[.int .i64 m, .slice ka k.length kc]] w fun e w' => e = .returned (.bool true) ∧ Below w.heap.size w w' := by
  have hm := hin.1
  have hmk := hik.1
  have HX := Lib.hid (alloc_blk (.cells #[.int .i64 m, .slice ka k.length kc] 50) (heap_alloc_new w (.cells #[.int .i64 n, .slice la l.length lc] 50)))
  have HY := Lib.hid (show ((w.alloc (.cells #[.int .i64 n, .slice la l.length lc] 50)).alloc (.cells #[.int .i64 m, .slice ka k.length kc] 50)).heap[w.heap.size + 1]? = some (.cells #[.int .i64 m, .slice ka k.length kc] 50 (0, 0)) by
    simpa using heap_alloc_new (w.alloc (.cells #[.int .i64 n, .slice la l.length lc] 50)) (.cells #[.int .i64 m, .slice ka k.length kc] 50))
  obtain ⟨cX0, cX1⟩ := blk_cells2 HX.out
  have lX := lt_of_block HX.out
  obtain ⟨cY0, cY1⟩ := blk_cells2 HY.out
  have lY := lt_of_block HY.out
  have Hb := Lib.hid (show Below w.heap.size w ((w.alloc (.cells #[.int .i64 n, .slice la l.length lc] 50)).alloc (.cells #[.int .i64 m, .slice ka k.length kc] 50)) by go_grown)
  have ha0 := size_alloc1 w (.cells #[.int .i64 n, .slice la l.length lc] 50)
  have hay := size_alloc1 (w.alloc (.cells #[.int .i64 n, .slice la l.length lc] 50)) (.cells #[.int .i64 m, .slice ka k.length kc] 50)
  by_cases hs : l.length + k.length ≤ 1048576
  · have hnl : l.length ≤ 1048576 := by omega
    have hnk : k.length ≤ 1048576 := by omega
    have Hto := Lib.hid (fun W (hb : Below w.heap.size w W) => toCi n la lc w.heap.size l W (hin.below hb) hb.size hnl)
    have Hty := Lib.hid (fun W (hb : Below w.heap.size w W) => toCi m ka kc w.heap.size k W (hik.below hb) hb.size hnk)
    have Hsp := Lib.hid (fun W B C v u (h1 : gtE.Sl W B v l) (h2 : gtE.Sl W C u k) => sequalC B C n m v u l k W h1 h2 hnl hnk)
    have Him := Lib.hid (fun W B C v u (h1 : gtE.Sl W B v l) (h2 : gtE.Sl W C u k) => iequalC B C n m v u l k W h1 h2 hnl hnk n0 n1)
    generalize (decide (n = m) && decide (l = k)) = t at *
    have htt : (t != t) = false := by simp
    clear hin hik
    go_enter Try.func10, Try.ntmps10
    go_wp2_with fail
    refine (szCiFit n la l.length lc 1048576 _ (by omega) (by omega) (by omega)).mono ?_
    rintro e w1 ⟨rfl, hb1⟩
    have Hb := Lib.hid (below_nx Hb.out hb1)
    have hz1 := hb1.size
    have HX := Lib.hid (below_blk hb1 (lt_of_block HX.out) HX.out)
    have HY := Lib.hid (below_blk hb1 (lt_of_block HY.out) HY.out)
    clear hb1
    clear cX0 cX1 lX
    obtain ⟨cX0, cX1⟩ := blk_cells2 HX.out
    have lX := lt_of_block HX.out
    clear cY0 cY1 lY
    obtain ⟨cY0, cY1⟩ := blk_cells2 HY.out
    have lY := lt_of_block HY.out
    go_wp2_with fail
    refine (szCiFit m ka k.length kc _ _ (by omega) (by omega) (by omega)).mono ?_
    rintro e w2 ⟨rfl, hb2⟩
    have Hb := Lib.hid (below_nx Hb.out hb2)
    have hz2 := hb2.size
    have HX := Lib.hid (below_blk hb2 (lt_of_block HX.out) HX.out)
    have HY := Lib.hid (below_blk hb2 (lt_of_block HY.out) HY.out)
    clear hb2
    clear cX0 cX1 lX
    obtain ⟨cX0, cX1⟩ := blk_cells2 HX.out
    have lX := lt_of_block HX.out
    clear cY0 cY1 lY
    obtain ⟨cY0, cY1⟩ := blk_cells2 HY.out
    have lY := lt_of_block HY.out
    go_wp2_with fail
    have hS : CB2 w2 (w.heap.size) (w.heap.size + 1) n m (.slice la l.length lc) (.slice ka k.length kc) w2 := ⟨cX0, cX1, cY0, cY1, lX, lY, Below.refl _ _⟩
    go_upto_region 8 with fail
    go_region_held3 (fun w' => w'.cell? ⟨w.heap.size, 0, none⟩ = some (.int .i64 n) ∧ w'.cell? ⟨w.heap.size, 1, none⟩ = some (.slice la l.length lc) ∧ w'.cell? ⟨w.heap.size + 1, 0, none⟩ = some (.int .i64 m) ∧ w'.cell? ⟨w.heap.size + 1, 1, none⟩ = some (.slice ka k.length kc) ∧ w.heap.size < w'.heap.size ∧ w.heap.size + 1 < w'.heap.size ∧ Below w2.heap.size w2 w') (first | (show CB2 _ _ _ _ _ _ _ _; (with_reducible exact hS.drew)) | (show CB2 _ _ _ _ _ _ _ _; (with_reducible refine CB2.below ?_ hbR); first | assumption | exact ⟨by assumption, by assumption, by assumption, by assumption, by assumption, by assumption, by assumption⟩))
      (first
        | (go_at_call 32; (with_reducible refine (Hto.out _ Hb.out.drew).mono ?_); rintro e wR ⟨vR, rfl, hdR, hbR⟩; have HbR := Lib.hid (show Below w2.heap.size w2 wR from (Below.refl _ _).drew.trans hbR); have HbRw := Lib.hid (below_nx Hb.out HbR.out); have HdR := Lib.hid hdR; obtain ⟨pR, qR, rfl, -, -⟩ := hdR)
        | (go_at_call 32; (with_reducible refine (Hty.out _ HbRw.out).mono ?_); rintro e wS ⟨vS, rfl, hdS, hbR⟩; have HbS := Lib.hid hbR; have HdS := Lib.hid hdS; have HdR := Lib.hid (HdR.out.below hbR); obtain ⟨pS, qS, rfl, -, -⟩ := hdS)
        | (go_at_call 14; refine (Hsp.out _ _ _ _ _ HdR.out HdS.out).mono ?_; rintro e w3 ⟨rfl, hbR⟩; have HbQ := Lib.hid hbR))
    have hb3 : Below w2.heap.size w2 w3 := below_nx (below_nx HbR.out HbS.out) HbQ.out
    clear hS HbR HbS HbQ HdR HdS HbRw
    have Hb := Lib.hid (below_nx Hb.out hb3)
    have hz3 := hb3.size
    have HX := Lib.hid (below_blk hb3 (lt_of_block HX.out) HX.out)
    have HY := Lib.hid (below_blk hb3 (lt_of_block HY.out) HY.out)
    clear hb3
    clear cX0 cX1 lX
    obtain ⟨cX0, cX1⟩ := blk_cells2 HX.out
    have lX := lt_of_block HX.out
    clear cY0 cY1 lY
    obtain ⟨cY0, cY1⟩ := blk_cells2 HY.out
    have lY := lt_of_block HY.out
    go_wp2_with fail
    refine (Hto.out _ Hb.out).mono ?_
    rintro e w4 ⟨vx0, rfl, hd4, hb4⟩
    obtain ⟨px0, qx0, rfl, -, -⟩ := id hd4
    have Hx0 := Lib.hid hd4.upto
    have Hx0 := Lib.hid (Hx0.out.below ((Below.refl _ _).alloc (Nat.le_refl _) (.cells #[.int .i64 n, .slice px0 l.length qx0] 26)))
    have hy4 := hb4.size
    have hb4 := hb4.alloc hb4.size (.cells #[.int .i64 n, .slice px0 l.length qx0] 26)
    have Hb := Lib.hid (below_nx Hb.out hb4)
    have hz4 := hb4.size
    simp only [size_alloc1] at hz4
    have ha4 := size_alloc1 w4 (.cells #[.int .i64 n, .slice px0 l.length qx0] 26)
    have HX := Lib.hid (below_blk hb4 (lt_of_block HX.out) HX.out)
    have HY := Lib.hid (below_blk hb4 (lt_of_block HY.out) HY.out)
    have HBo := Lib.hid (heap_alloc_new w4 (.cells #[.int .i64 n, .slice px0 l.length qx0] 26))
    clear hb4 hd4
    clear cX0 cX1 lX
    obtain ⟨cX0, cX1⟩ := blk_cells2 HX.out
    have lX := lt_of_block HX.out
    clear cY0 cY1 lY
    obtain ⟨cY0, cY1⟩ := blk_cells2 HY.out
    have lY := lt_of_block HY.out
    obtain ⟨bo0, bo1⟩ := blk_cells2 HBo.out
    have bol := lt_of_block HBo.out
    go_wp2_with fail
    refine (Hty.out _ Hb.out).mono ?_
    rintro e w5 ⟨vx1, rfl, hd5, hb5⟩
    obtain ⟨px1, qx1, rfl, -, -⟩ := id hd5
    have Hx1 := Lib.hid hd5.upto
    have Hx1 := Lib.hid (Hx1.out.below ((Below.refl _ _).alloc (Nat.le_refl _) (.cells #[.int .i64 m, .slice px1 k.length qx1] 26)))
    have hy5 := hb5.size
    have hb5 := hb5.alloc hb5.size (.cells #[.int .i64 m, .slice px1 k.length qx1] 26)
    have Hx0 := Lib.hid (Hx0.out.below hb5)
    have Hb := Lib.hid (below_nx Hb.out hb5)
    have hz5 := hb5.size
    simp only [size_alloc1] at hz5
    have ha5 := size_alloc1 w5 (.cells #[.int .i64 m, .slice px1 k.length qx1] 26)
    have HX := Lib.hid (below_blk hb5 (lt_of_block HX.out) HX.out)
    have HY := Lib.hid (below_blk hb5 (lt_of_block HY.out) HY.out)
    have HBo := Lib.hid (below_blk hb5 (lt_of_block HBo.out) HBo.out)
    have HBa := Lib.hid (heap_alloc_new w5 (.cells #[.int .i64 m, .slice px1 k.length qx1] 26))
    clear hb5 hd5
    clear cX0 cX1 lX
    obtain ⟨cX0, cX1⟩ := blk_cells2 HX.out
    have lX := lt_of_block HX.out
    clear cY0 cY1 lY
    obtain ⟨cY0, cY1⟩ := blk_cells2 HY.out
    have lY := lt_of_block HY.out
    clear bo0 bo1 bol
    obtain ⟨bo0, bo1⟩ := blk_cells2 HBo.out
    have bol := lt_of_block HBo.out
    obtain ⟨ba0, ba1⟩ := blk_cells2 HBa.out
    have bal := lt_of_block HBa.out
    go_wp2_with fail
    refine (Him.out _ _ _ _ _ Hx0.out.sl Hx1.out.sl).mono ?_
    rintro e w6 ⟨rfl, hb6⟩
    have Hx0 := Lib.hid (Hx0.out.below hb6)
    have Hx1 := Lib.hid (Hx1.out.below hb6)
    have Hb := Lib.hid (below_nx Hb.out hb6)
    have hz6 := hb6.size
    simp only [size_alloc1] at hz6
    have HX := Lib.hid (below_blk hb6 (lt_of_block HX.out) HX.out)
    have HY := Lib.hid (below_blk hb6 (lt_of_block HY.out) HY.out)
    have HBo := Lib.hid (below_blk hb6 (lt_of_block HBo.out) HBo.out)
    have HBa := Lib.hid (below_blk hb6 (lt_of_block HBa.out) HBa.out)
    clear hb6
    clear cX0 cX1 lX
    obtain ⟨cX0, cX1⟩ := blk_cells2 HX.out
    have lX := lt_of_block HX.out
    clear cY0 cY1 lY
    obtain ⟨cY0, cY1⟩ := blk_cells2 HY.out
    have lY := lt_of_block HY.out
    clear bo0 bo1 bol
    obtain ⟨bo0, bo1⟩ := blk_cells2 HBo.out
    have bol := lt_of_block HBo.out
    clear ba0 ba1 bal
    obtain ⟨ba0, ba1⟩ := blk_cells2 HBa.out
    have bal := lt_of_block HBa.out
    have hS : CB2 w6 (w.heap.size) w4.heap.size n n (.slice la l.length lc) (.slice px0 l.length qx0) w6 := ⟨cX0, cX1, bo0, bo1, lX, bol, Below.refl _ _⟩
    go_upto_region 14 with fail
    go_region_held3 (fun w' => w'.cell? ⟨w.heap.size, 0, none⟩ = some (.int .i64 n) ∧ w'.cell? ⟨w.heap.size, 1, none⟩ = some (.slice la l.length lc) ∧ w'.cell? ⟨w4.heap.size, 0, none⟩ = some (.int .i64 n) ∧ w'.cell? ⟨w4.heap.size, 1, none⟩ = some (.slice px0 l.length qx0) ∧ w.heap.size < w'.heap.size ∧ w4.heap.size < w'.heap.size ∧ Below w6.heap.size w6 w') (first | (show CB2 _ _ _ _ _ _ _ _; (with_reducible exact hS.drew)) | (show CB2 _ _ _ _ _ _ _ _; (with_reducible refine CB2.below ?_ hbR); first | assumption | exact ⟨by assumption, by assumption, by assumption, by assumption, by assumption, by assumption, by assumption⟩))
      (first
        | (go_at_call 32; refine (Hto.out _ Hb.out.drew).mono ?_; rintro e wR ⟨vR, rfl, hdR, hbR⟩; have HbR := Lib.hid (show Below w6.heap.size w6 wR from (Below.refl _ _).drew.trans hbR); have HdR := Lib.hid hdR; obtain ⟨pR, qR, rfl, -, -⟩ := hdR)
        | (go_at_call 33; refine (eqCi _ _ n _ _ l _ (Hx0.out.below HbR.out).sl HdR.out hnl).mono ?_; rintro e w7 ⟨rfl, hbR⟩; have HbQ := Lib.hid hbR))
    have hb7 : Below w6.heap.size w6 w7 := below_nx HbR.out HbQ.out
    clear hS HbR HbQ HdR
    have Hx0 := Lib.hid (Hx0.out.below hb7)
    have Hx1 := Lib.hid (Hx1.out.below hb7)
    have Hb := Lib.hid (below_nx Hb.out hb7)
    have hz7 := hb7.size
    have HX := Lib.hid (below_blk hb7 (lt_of_block HX.out) HX.out)
    have HY := Lib.hid (below_blk hb7 (lt_of_block HY.out) HY.out)
    have HBo := Lib.hid (below_blk hb7 (lt_of_block HBo.out) HBo.out)
    have HBa := Lib.hid (below_blk hb7 (lt_of_block HBa.out) HBa.out)
    clear hb7
    clear cX0 cX1 lX
    obtain ⟨cX0, cX1⟩ := blk_cells2 HX.out
    have lX := lt_of_block HX.out
    clear cY0 cY1 lY
    obtain ⟨cY0, cY1⟩ := blk_cells2 HY.out
    have lY := lt_of_block HY.out
    clear bo0 bo1 bol
    obtain ⟨bo0, bo1⟩ := blk_cells2 HBo.out
    have bol := lt_of_block HBo.out
    clear ba0 ba1 bal
    obtain ⟨ba0, ba1⟩ := blk_cells2 HBa.out
    have bal := lt_of_block HBa.out
    have hS : CB2 w7 (w.heap.size + 1) w5.heap.size m m (.slice ka k.length kc) (.slice px1 k.length qx1) w7 := ⟨cY0, cY1, ba0, ba1, lY, bal, Below.refl _ _⟩
    go_upto_region 16 with fail
    go_region_held3 (fun w' => w'.cell? ⟨w.heap.size + 1, 0, none⟩ = some (.int .i64 m) ∧ w'.cell? ⟨w.heap.size + 1, 1, none⟩ = some (.slice ka k.length kc) ∧ w'.cell? ⟨w5.heap.size, 0, none⟩ = some (.int .i64 m) ∧ w'.cell? ⟨w5.heap.size, 1, none⟩ = some (.slice px1 k.length qx1) ∧ w.heap.size + 1 < w'.heap.size ∧ w5.heap.size < w'.heap.size ∧ Below w7.heap.size w7 w') (first | (show CB2 _ _ _ _ _ _ _ _; (with_reducible exact hS.drew)) | (show CB2 _ _ _ _ _ _ _ _; (with_reducible refine CB2.below ?_ hbR); first | assumption | exact ⟨by assumption, by assumption, by assumption, by assumption, by assumption, by assumption, by assumption⟩))
      (first
        | (go_at_call 32; refine (Hty.out _ Hb.out.drew).mono ?_; rintro e wR ⟨vR, rfl, hdR, hbR⟩; have HbR := Lib.hid (show Below w7.heap.size w7 wR from (Below.refl _ _).drew.trans hbR); have HdR := Lib.hid hdR; obtain ⟨pR, qR, rfl, -, -⟩ := hdR)
        | (go_at_call 33; refine (eqCi _ _ m _ _ k _ (Hx1.out.below HbR.out).sl HdR.out hnk).mono ?_; rintro e w8 ⟨rfl, hbR⟩; have HbQ := Lib.hid hbR))
    have hb8 : Below w7.heap.size w7 w8 := below_nx HbR.out HbQ.out
    clear hS HbR HbQ HdR
    have Hx0 := Lib.hid (Hx0.out.below hb8)
    have Hx1 := Lib.hid (Hx1.out.below hb8)
    have Hb := Lib.hid (below_nx Hb.out hb8)
    have hz8 := hb8.size
    have HX := Lib.hid (below_blk hb8 (lt_of_block HX.out) HX.out)
    have HY := Lib.hid (below_blk hb8 (lt_of_block HY.out) HY.out)
    have HBo := Lib.hid (below_blk hb8 (lt_of_block HBo.out) HBo.out)
    have HBa := Lib.hid (below_blk hb8 (lt_of_block HBa.out) HBa.out)
    clear hb8
    clear cX0 cX1 lX
    obtain ⟨cX0, cX1⟩ := blk_cells2 HX.out
    have lX := lt_of_block HX.out
    clear cY0 cY1 lY
    obtain ⟨cY0, cY1⟩ := blk_cells2 HY.out
    have lY := lt_of_block HY.out
    clear bo0 bo1 bol
    obtain ⟨bo0, bo1⟩ := blk_cells2 HBo.out
    have bol := lt_of_block HBo.out
    clear ba0 ba1 bal
    obtain ⟨ba0, ba1⟩ := blk_cells2 HBa.out
    have bal := lt_of_block HBa.out
    go_wp2_with fail
    go_ret
    exact ⟨rfl, Hb.out⟩
  · clear hin hik
    by_cases hnl : l.length ≤ 1048576
    · go_enter Try.func10, Try.ntmps10
      go_wp2_with fail
      refine (szCiFit n la l.length lc 1048576 _ (by omega) (by omega) (by omega)).mono ?_
      rintro e w1 ⟨rfl, hb1⟩
      have HY := Lib.hid (below_blk hb1 (lt_of_block HY.out) HY.out)
      have Hb := Lib.hid (below_nx Hb.out hb1)
      clear cX0 cX1 lX cY0 cY1 lY hb1
      obtain ⟨cY0, cY1⟩ := blk_cells2 HY.out
      have lY := lt_of_block HY.out
      go_wp2_with fail
      refine (szCiBig m ka k.length kc _ _ hmk (by omega) (by omega) (by omega)).mono ?_
      rintro e w2 ⟨rfl, hb2⟩
      have Hb := Lib.hid (below_nx Hb.out hb2)
      clear hb2
      go_wp2_with fail
      go_ret
      exact ⟨rfl, Hb.out⟩
    · go_enter Try.func10, Try.ntmps10
      go_wp2_with fail
      refine (szCiBig n la l.length lc 1048576 _ hm (by omega) (by omega) (by omega)).mono ?_
      rintro e w1 ⟨rfl, hb1⟩
      have Hb := Lib.hid (below_nx Hb.out hb1)
      clear hb1
      go_wp2_with fail
      go_ret
      exact ⟨rfl, Hb.out⟩
open Go.ChangeMaps (open_string shut_string)
theorem laidOut : laidOutB Try.prog = true := by kernel_rfl
theorem own : ownKnob Try.prog.godebug = none := by kernel_rfl
set_option maxRecDepth 100000 in
/-- What the walk gives, for every argument. -/
theorem contract (H : Type) (enc : TypeId × Value → H) (W : World) (base : Nat) (args : Array Value) (ds gs : List (DataW H)) (before : List MemPlace)
    (hval : ∀ (j : Nat) t v, Try.f10.params[j]? = some t → args[j]? = some v → Value.okWide Try.prog W .any base t v)
    (hW : DataW.Whole enc Try.prog Try.f10.params.toList Rows.fnExactEqualCircuitSpec.vars false W args.toList ds gs before) :
    Calls Try.prog 10 args W fun e W' => ∃ v, e = .returned v ∧ Rows.fnExactEqualCircuitSpec.post enc Try.prog Try.f10 false true false false W args v W' := by
  have hW' := hW
  obtain ⟨p, q, hA0, hV, rfl, hfz, hnd⟩ := hW
  have hA : DataW.TrodAll enc Try.prog W 0 (fun _ => true) true Try.f10.params.toList args.toList ds p := hA0
  rw [Try.params10] at hA hval
  obtain ⟨v0, vs0, d0, ds0, p0, q0, hargs, rfl, rfl, h0, r0⟩ := trodAll_cons hA
  obtain ⟨v1, vs1, d1, ds1, p1, q1, rfl, rfl, rfl, h1, r1⟩ := trodAll_cons r0
  obtain ⟨rfl, rfl, rfl⟩ := trodAll_nil r1
  obtain rfl : args = #[v0, v1] := by cases args; simp_all
  obtain ⟨rfl, rfl⟩ := trodVars_none hV
  have k0 := h0
  have lt0 : ∀ x ∈ p0, x.block < W.heap.size := by obtain ⟨m, hm⟩ := k0; exact DataW.trod_lt m _ _ _ hm
  obtain ⟨l0, l1, ly0, ly1, lm, rfl, rfl, rfl, lt0, lt1⟩ := Go.Joins.open_agg2 Try.underlying50 (by kernel_rfl) (by kernel_rfl) (hval 0 50 v0 rfl rfl) h0
  obtain ⟨lN, ela, -, wlN⟩ := DataW.trod_int Try.underlying3 lt0
  obtain rfl := List.head_eq_of_cons_eq ela
  obtain ⟨la, lc, l, rfl, lh⟩ := open_gs1 lt1
  clear ela lt0 lt1
  have k1 := h1
  have lt1 : ∀ x ∈ p1, x.block < W.heap.size := by obtain ⟨m, hm⟩ := k1; exact DataW.trod_lt m _ _ _ hm
  obtain ⟨k0, k1, ky0, ky1, km, rfl, rfl, rfl, kt0, kt1⟩ := Go.Joins.open_agg2 Try.underlying50 (by kernel_rfl) (by kernel_rfl) (hval 1 50 v1 rfl rfl) h1
  obtain ⟨kN, eka, -, wkN⟩ := DataW.trod_int Try.underlying3 kt0
  obtain rfl := List.head_eq_of_cons_eq eka
  obtain ⟨ka, kc, k, rfl, kh⟩ := open_gs1 kt1
  clear eka kt0 kt1
  clear hA0
  simp only [List.append_nil] at hW'
  refine (walk lN la lc l kN ka kc k W (bounds_i64 wlN).1 (bounds_i64 wlN).2 lh (bounds_i64 wkN).1 (bounds_i64 wkN).2 kh).mono fun e W' ⟨he, hg⟩ => ?_
  subst he
  exact ⟨_, rfl, _, _, _, [], _, [], hW', trodAll_mk1 (shut_bool Try.underlying4 _), (trodAll_cons_mk (Below.trod laidOut (by kernel_rfl) (of_decide_eq_true (by kernel_rfl)) k0 hg lt0) (trodAll_cons_mk (Below.trod laidOut (by kernel_rfl) (of_decide_eq_true (by kernel_rfl)) k1 hg lt1) trodAll_mk0)), rfl, hg.frame _, fun h => by cases h⟩
set_option maxRecDepth 100000 in
theorem lifted (os : Os) (started : os.Started) (H : Type) (enc : TypeId × Value → H) :
    ReturnsInHanded {} Try.checked os 10 .any (Rows.fnExactEqualCircuitSpec.pre6 enc Try.prog Try.f10 Rows.fnExactEqualCircuitRow.domain false) (Rows.fnExactEqualCircuitSpec.post enc Try.prog Try.f10 false true false false) := by
  refine returnsInHanded_of_change (C := Try.checked) own started (by kernel_rfl) Try.func10
    (ChangeSpec.witness6 (enc := enc) (C := Try.checked) false ⟨#[], #[.agg #[.int .i64 0, .slice none 0 0], .agg #[.int .i64 0, .slice none 0 0]], []⟩ 8 (by kernel_rfl) (by kernel_rfl) (by kernel_rfl) (by kernel_rfl)) ?_
  intro W base args ds gs before hval hW _ _
  exact contract H enc W base args ds gs before hval hW
theorem closedFacts : joinedFacts Try.pinned.checked.prog 10 Try.f10 Rows.fnExactEqualCircuitSpec Rows.fnExactEqualCircuitRow = true := by
  unfold joinedFacts
  rw [init_may, init_facts.2.1, init_facts.2.2]
  kernel_rfl
theorem said : Rows.FnExactEqualCircuitSaid :=
  OpenClaim.holds_of_wide 10 Try.f10 rfl rfl rfl rfl rfl rfl rfl ⟨rfl, rfl, rfl, rfl, rfl⟩ rfl rfl rfl rfl rfl (by kernel_rfl) Try.func10 closedFacts
    (of_decide_eq_true (by kernel_rfl)) (by unfold Func.isWrapper; first | (rw [if_pos (by decide +kernel)]; kernel_rfl) | (rw [if_neg (by decide +kernel)]; exact ⟨rfl, rfl⟩))
    (fun os started H enc _ => lifted os started H enc)
end Go.Proofs.Ytmpafidkpangeaa.fnExactEqualCircuit
