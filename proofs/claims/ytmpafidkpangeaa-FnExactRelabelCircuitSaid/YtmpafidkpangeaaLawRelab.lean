/- The law FnExactRelabelCircuit: RelabelCircuit answers as its model, at every circuit and every slice. No condition. -/
import Derived.Test.YtmpafidkpangeaaInit
import Derived.Test.YtmpafidkpangeaaCiKr
import Derived.Test.YtmpafidkpangeaaCiM
import Derived.Test.YtmpafidkpangeaaBaseB20
import Derived.Test.YtmpafidkpangeaaBaseB26
import Derived.Test.YtmpafidkpangeaaBaseB24
import Derived.Test.YtmpafidkpangeaaBaseB13
import Derived.Test.YtmpafidkpangeaaBaseB09
import Derived.Lib.SmallJoins
import Derived.WalkKit
import Derived.ProofKit
import Derived.OpenShut
import Derived.Deep.DeepHandedRow
import Derived.Lib.LaidTab
import Derived.LaidMore
import Derived.LaidHandle
import Derived.Lay
import Derived.Stop.LaidErr
namespace Go.Proofs.Ytmpafidkpangeaa.fnExactRelabelCircuit
open Go.ChangeShapes Go.WideShapes Go.ChangeAt Go.RowKit Go.Lib
attribute [local irreducible] World.cell?
set_option maxRecDepth 100000 in
set_option maxHeartbeats 12800000 in
theorem walk (n : Int) (la : Option Addr) (lc : Nat) (l : List Gt) (pa : Option Addr) (pc : Nat) (p : List Int) (w : World) (n0 : -9223372036854775808 ≤ n) (n1 : n ≤ 9223372036854775807) (hin : GsIn w w.heap.size la l) (hinp : IsIn w w.heap.size pa p) :
    Calls Try.prog 9 #[.agg #[.int .i64 n, .slice la l.length lc], .slice pa p.length pc] w fun e w' => e = .returned (.bool true) ∧ Below w.heap.size w w' := by
  have hm := hin.1
  have hmp := hinp.1
  have HX := Lib.hid (heap_alloc_new w (.cells #[.int .i64 n, .slice la l.length lc] 50))
  obtain ⟨cX0, cX1⟩ := blk_cells2 HX.out
  have lX := lt_of_block HX.out
  have Hb := Lib.hid (show Below w.heap.size w (w.alloc (.cells #[.int .i64 n, .slice la l.length lc] 50)) by go_grown)
  have ha0 := size_alloc1 w (.cells #[.int .i64 n, .slice la l.length lc] 50)
  by_cases hnp : p.length ≤ 1048576
  · by_cases hnl : l.length ≤ 1048576
    · have Hto := Lib.hid (fun W (hb : Below w.heap.size w W) => toCi n la lc w.heap.size l W (hin.below hb) hb.size hnl)
      have Htp := Lib.hid (fun W (hb : Below w.heap.size w W) => toIs pa pc w.heap.size p W (hinp.below hb) hb.size hnp)
      have hep : Ei p := hinp.2.1
      have hr : (rlL n l p).length ≤ 1048576 := by unfold rlL; split <;> simp <;> omega
      have HmI := Lib.hid (show ∀ W B C v, intE.Sc W B C v p → Calls Try.prog 40 #[v, .int .i64 (1 + (l.length : Int) * 4)] W fun e w' => e = .returned (.int .i64 (1 + (l.length : Int) * 4 + (p.length : Int))) ∧ intE.Sc w' B C v (marksI (1 + l.length * 4) p.length) ∧ Mid B C W w' from fun W B C v hv => by
        have h := markIs B C (1 + l.length * 4) v p W hv hnp (by omega)
        rw [show ((1 + l.length * 4 : Nat) : Int) = 1 + (l.length : Int) * 4 by omega, show ((1 + l.length * 4 + p.length : Nat) : Int) = 1 + (l.length : Int) * 4 + (p.length : Int) by omega] at h
        exact h)
      have Hsp := Lib.hid (fun W B C v u (h1 : gtE.Sl W B v l) (h2 : intE.Sl W C u p) => srelab B C n v u l p W h1 h2 hep hnl hnp)
      have Him := Lib.hid (fun W B C v u (h1 : gtE.Sl W B v l) (h2 : intE.Sl W C u p) => irelab B C n v u l p W h1 h2 hep hnl hnp n0 n1)
      generalize rlL n l p = r at *
      generalize rlN n l p = m at *
      generalize rlB n l p = t at *
      have htt : (t != t) = false := by simp
      have hk0 : ¬ (1 + (l.length : Int) * 4 + (p.length : Int) < 0) := by omega
      clear hin hinp hep
      go_enter Try.func9, Try.ntmps9
      go_wp2_with fail
      refine (szCiFit n la l.length lc 1048576 _ (by omega) (by omega) (by omega)).mono ?_
      rintro e w1 ⟨rfl, hb1⟩
      have Hb := Lib.hid (below_nx Hb.out hb1)
      have hz1 := hb1.size
      have HX := Lib.hid (below_blk hb1 (lt_of_block HX.out) HX.out)
      clear hb1
      clear cX0 cX1 lX
      obtain ⟨cX0, cX1⟩ := blk_cells2 HX.out
      have lX := lt_of_block HX.out
      go_wp2_with fail
      refine (Hto.out _ Hb.out).mono ?_
      rintro e w2 ⟨vs0, rfl, hd2, hb2⟩
      obtain ⟨ps0, qs0, rfl, -, -⟩ := id hd2
      have Hs0 := Lib.hid hd2.upto
      have Hb := Lib.hid (below_nx Hb.out hb2)
      have hz2 := hb2.size
      have HX := Lib.hid (below_blk hb2 (lt_of_block HX.out) HX.out)
      clear hb2 hd2
      clear cX0 cX1 lX
      obtain ⟨cX0, cX1⟩ := blk_cells2 HX.out
      have lX := lt_of_block HX.out
      go_wp2_with fail
      refine (Htp.out _ Hb.out).mono ?_
      rintro e w3 ⟨vt0, rfl, hd3, hb3⟩
      have Ht0 := Lib.hid hd3.upto
      have Hs0 := Lib.hid (Hs0.out.below hb3)
      have Hb := Lib.hid (below_nx Hb.out hb3)
      have hz3 := hb3.size
      have HX := Lib.hid (below_blk hb3 (lt_of_block HX.out) HX.out)
      clear hb3 hd3
      clear cX0 cX1 lX
      obtain ⟨cX0, cX1⟩ := blk_cells2 HX.out
      have lX := lt_of_block HX.out
      go_wp2_with fail
      refine (Hsp.out _ _ _ _ _ Hs0.out.sl Ht0.out.sl).mono ?_
      rintro e w4 ⟨⟨vw, rfl, hd4⟩, hb4⟩
      obtain ⟨pw0, qw0, rfl, -, -⟩ := id hd4
      have Hw0 := Lib.hid hd4.upto
      have Hw0 := Lib.hid (Hw0.out.below ((Below.refl _ _).alloc (Nat.le_refl _) (.cells #[.int .i64 m, .slice pw0 r.length qw0] 26)))
      have hy4 := hb4.size
      have hb4 := hb4.alloc hb4.size (.cells #[.int .i64 m, .slice pw0 r.length qw0] 26)
      have Hs0 := Lib.hid (Hs0.out.below hb4)
      have Ht0 := Lib.hid (Ht0.out.below hb4)
      have Hb := Lib.hid (below_nx Hb.out hb4)
      have hz4 := hb4.size
      simp only [size_alloc1] at hz4
      have ha4 := size_alloc1 w4 (.cells #[.int .i64 m, .slice pw0 r.length qw0] 26)
      have HX := Lib.hid (below_blk hb4 (lt_of_block HX.out) HX.out)
      have HBa := Lib.hid (heap_alloc_new w4 (.cells #[.int .i64 m, .slice pw0 r.length qw0] 26))
      clear hb4 hd4
      clear cX0 cX1 lX
      obtain ⟨cX0, cX1⟩ := blk_cells2 HX.out
      have lX := lt_of_block HX.out
      obtain ⟨ba0, ba1⟩ := blk_cells2 HBa.out
      have bal := lt_of_block HBa.out
      go_wp2_with fail
      refine (Hto.out _ Hb.out).mono ?_
      rintro e w5 ⟨vx0, rfl, hd5, hb5⟩
      obtain ⟨px0, qx0, rfl, -, -⟩ := id hd5
      have Hx0 := Lib.hid hd5.upto
      have Hx0 := Lib.hid (Hx0.out.below ((Below.refl _ _).alloc (Nat.le_refl _) (.cells #[.int .i64 n, .slice px0 l.length qx0] 26)))
      have hy5 := hb5.size
      have hb5 := hb5.alloc hb5.size (.cells #[.int .i64 n, .slice px0 l.length qx0] 26)
      have Hw0 := Lib.hid (Hw0.out.below hb5)
      have Hb := Lib.hid (below_nx Hb.out hb5)
      have hz5 := hb5.size
      simp only [size_alloc1] at hz5
      have ha5 := size_alloc1 w5 (.cells #[.int .i64 n, .slice px0 l.length qx0] 26)
      have HX := Lib.hid (below_blk hb5 (lt_of_block HX.out) HX.out)
      have HBa := Lib.hid (below_blk hb5 (lt_of_block HBa.out) HBa.out)
      have HBo := Lib.hid (heap_alloc_new w5 (.cells #[.int .i64 n, .slice px0 l.length qx0] 26))
      clear hb5 hd5
      clear cX0 cX1 lX
      obtain ⟨cX0, cX1⟩ := blk_cells2 HX.out
      have lX := lt_of_block HX.out
      clear ba0 ba1 bal
      obtain ⟨ba0, ba1⟩ := blk_cells2 HBa.out
      have bal := lt_of_block HBa.out
      obtain ⟨bo0, bo1⟩ := blk_cells2 HBo.out
      have bol := lt_of_block HBo.out
      go_wp2_with fail
      refine (Htp.out _ Hb.out).mono ?_
      rintro e w6 ⟨vx1, rfl, hd6, hb6⟩
      have Hx1 := Lib.hid hd6.upto
      have Hw0 := Lib.hid (Hw0.out.below hb6)
      have Hx0 := Lib.hid (Hx0.out.below hb6)
      have Hb := Lib.hid (below_nx Hb.out hb6)
      have hz6 := hb6.size
      simp only [size_alloc1] at hz6
      have HX := Lib.hid (below_blk hb6 (lt_of_block HX.out) HX.out)
      have HBa := Lib.hid (below_blk hb6 (lt_of_block HBa.out) HBa.out)
      have HBo := Lib.hid (below_blk hb6 (lt_of_block HBo.out) HBo.out)
      clear hb6 hd6
      clear cX0 cX1 lX
      obtain ⟨cX0, cX1⟩ := blk_cells2 HX.out
      have lX := lt_of_block HX.out
      clear ba0 ba1 bal
      obtain ⟨ba0, ba1⟩ := blk_cells2 HBa.out
      have bal := lt_of_block HBa.out
      clear bo0 bo1 bol
      obtain ⟨bo0, bo1⟩ := blk_cells2 HBo.out
      have bol := lt_of_block HBo.out
      go_wp2_with fail
      refine (Him.out _ _ _ _ _ Hx0.out.sl Hx1.out.sl).mono ?_
      rintro e w7 ⟨⟨vg, rfl, hd7⟩, hb7⟩
      obtain ⟨pg0, qg0, rfl, -, -⟩ := id hd7
      have Hg0 := Lib.hid hd7.upto
      have Hg0 := Lib.hid (Hg0.out.below ((Below.refl _ _).alloc (Nat.le_refl _) (.cells #[.int .i64 m, .slice pg0 r.length qg0] 26)))
      have hy7 := hb7.size
      have hb7 := hb7.alloc hb7.size (.cells #[.int .i64 m, .slice pg0 r.length qg0] 26)
      have Hw0 := Lib.hid (Hw0.out.below hb7)
      have Hx0 := Lib.hid (Hx0.out.below hb7)
      have Hx1 := Lib.hid (Hx1.out.below hb7)
      have Hb := Lib.hid (below_nx Hb.out hb7)
      have hz7 := hb7.size
      simp only [size_alloc1] at hz7
      have ha7 := size_alloc1 w7 (.cells #[.int .i64 m, .slice pg0 r.length qg0] 26)
      have HX := Lib.hid (below_blk hb7 (lt_of_block HX.out) HX.out)
      have HBa := Lib.hid (below_blk hb7 (lt_of_block HBa.out) HBa.out)
      have HBo := Lib.hid (below_blk hb7 (lt_of_block HBo.out) HBo.out)
      have HBb := Lib.hid (heap_alloc_new w7 (.cells #[.int .i64 m, .slice pg0 r.length qg0] 26))
      clear hb7 hd7
      clear cX0 cX1 lX
      obtain ⟨cX0, cX1⟩ := blk_cells2 HX.out
      have lX := lt_of_block HX.out
      clear ba0 ba1 bal
      obtain ⟨ba0, ba1⟩ := blk_cells2 HBa.out
      have bal := lt_of_block HBa.out
      clear bo0 bo1 bol
      obtain ⟨bo0, bo1⟩ := blk_cells2 HBo.out
      have bol := lt_of_block HBo.out
      obtain ⟨bb0, bb1⟩ := blk_cells2 HBb.out
      have bbl := lt_of_block HBb.out
      go_wp2_with fail
      refine (eqCi _ _ m _ _ r _ Hg0.out.sl Hw0.out.sl hr).mono ?_
      rintro e w8 ⟨rfl, hb8⟩
      have Hw0 := Lib.hid (Hw0.out.below hb8)
      have Hx0 := Lib.hid (Hx0.out.below hb8)
      have Hx1 := Lib.hid (Hx1.out.below hb8)
      have Hg0 := Lib.hid (Hg0.out.below hb8)
      have Hb := Lib.hid (below_nx Hb.out hb8)
      have hz8 := hb8.size
      simp only [size_alloc1] at hz8
      have HX := Lib.hid (below_blk hb8 (lt_of_block HX.out) HX.out)
      have HBa := Lib.hid (below_blk hb8 (lt_of_block HBa.out) HBa.out)
      have HBo := Lib.hid (below_blk hb8 (lt_of_block HBo.out) HBo.out)
      have HBb := Lib.hid (below_blk hb8 (lt_of_block HBb.out) HBb.out)
      clear hb8
      clear cX0 cX1 lX
      obtain ⟨cX0, cX1⟩ := blk_cells2 HX.out
      have lX := lt_of_block HX.out
      clear ba0 ba1 bal
      obtain ⟨ba0, ba1⟩ := blk_cells2 HBa.out
      have bal := lt_of_block HBa.out
      clear bo0 bo1 bol
      obtain ⟨bo0, bo1⟩ := blk_cells2 HBo.out
      have bol := lt_of_block HBo.out
      clear bb0 bb1 bbl
      obtain ⟨bb0, bb1⟩ := blk_cells2 HBb.out
      have bbl := lt_of_block HBb.out
      have hS : CB2 w8 (w.heap.size) w5.heap.size n n (.slice la l.length lc) (.slice px0 l.length qx0) w8 := ⟨cX0, cX1, bo0, bo1, lX, bol, Below.refl _ _⟩
      go_upto_region 13 with fail
      go_region_held3 (fun w' => w'.cell? ⟨w.heap.size, 0, none⟩ = some (.int .i64 n) ∧ w'.cell? ⟨w.heap.size, 1, none⟩ = some (.slice la l.length lc) ∧ w'.cell? ⟨w5.heap.size, 0, none⟩ = some (.int .i64 n) ∧ w'.cell? ⟨w5.heap.size, 1, none⟩ = some (.slice px0 l.length qx0) ∧ w.heap.size < w'.heap.size ∧ w5.heap.size < w'.heap.size ∧ Below w8.heap.size w8 w') (first | (show CB2 _ _ _ _ _ _ _ _; (with_reducible exact hS.drew)) | (show CB2 _ _ _ _ _ _ _ _; (with_reducible refine CB2.below ?_ hbR); first | assumption | exact ⟨by assumption, by assumption, by assumption, by assumption, by assumption, by assumption, by assumption⟩))
        (first
          | (go_at_call 32; refine (Hto.out _ Hb.out.drew).mono ?_; rintro e wR ⟨vR, rfl, hdR, hbR⟩; have HbR := Lib.hid (show Below w8.heap.size w8 wR from (Below.refl _ _).drew.trans hbR); have HdR := Lib.hid hdR; obtain ⟨pR, qR, rfl, -, -⟩ := hdR)
          | (go_at_call 33; refine (eqCi _ _ n _ _ l _ (Hx0.out.below HbR.out).sl HdR.out hnl).mono ?_; rintro e w9 ⟨rfl, hbR⟩; have HbQ := Lib.hid hbR))
      have hb9 : Below w8.heap.size w8 w9 := below_nx HbR.out HbQ.out
      clear hS HbR HbQ HdR
      have Hw0 := Lib.hid (Hw0.out.below hb9)
      have Hx0 := Lib.hid (Hx0.out.below hb9)
      have Hx1 := Lib.hid (Hx1.out.below hb9)
      have Hg0 := Lib.hid (Hg0.out.below hb9)
      have Hb := Lib.hid (below_nx Hb.out hb9)
      have hz9 := hb9.size
      have HX := Lib.hid (below_blk hb9 (lt_of_block HX.out) HX.out)
      have HBa := Lib.hid (below_blk hb9 (lt_of_block HBa.out) HBa.out)
      have HBo := Lib.hid (below_blk hb9 (lt_of_block HBo.out) HBo.out)
      have HBb := Lib.hid (below_blk hb9 (lt_of_block HBb.out) HBb.out)
      clear hb9
      clear cX0 cX1 lX
      obtain ⟨cX0, cX1⟩ := blk_cells2 HX.out
      have lX := lt_of_block HX.out
      clear ba0 ba1 bal
      obtain ⟨ba0, ba1⟩ := blk_cells2 HBa.out
      have bal := lt_of_block HBa.out
      clear bo0 bo1 bol
      obtain ⟨bo0, bo1⟩ := blk_cells2 HBo.out
      have bol := lt_of_block HBo.out
      clear bb0 bb1 bbl
      obtain ⟨bb0, bb1⟩ := blk_cells2 HBb.out
      have bbl := lt_of_block HBb.out
      go_wp2_with fail
      refine (Htp.out _ Hb.out).mono ?_
      rintro e w10 ⟨vy1, rfl, hd10, hb10⟩
      have Hy1 := Lib.hid hd10.upto
      have Hw0 := Lib.hid (Hw0.out.below hb10)
      have Hx0 := Lib.hid (Hx0.out.below hb10)
      have Hx1 := Lib.hid (Hx1.out.below hb10)
      have Hg0 := Lib.hid (Hg0.out.below hb10)
      have Hb := Lib.hid (below_nx Hb.out hb10)
      have hz10 := hb10.size
      have HX := Lib.hid (below_blk hb10 (lt_of_block HX.out) HX.out)
      have HBa := Lib.hid (below_blk hb10 (lt_of_block HBa.out) HBa.out)
      have HBo := Lib.hid (below_blk hb10 (lt_of_block HBo.out) HBo.out)
      have HBb := Lib.hid (below_blk hb10 (lt_of_block HBb.out) HBb.out)
      clear hb10 hd10
      clear cX0 cX1 lX
      obtain ⟨cX0, cX1⟩ := blk_cells2 HX.out
      have lX := lt_of_block HX.out
      clear ba0 ba1 bal
      obtain ⟨ba0, ba1⟩ := blk_cells2 HBa.out
      have bal := lt_of_block HBa.out
      clear bo0 bo1 bol
      obtain ⟨bo0, bo1⟩ := blk_cells2 HBo.out
      have bol := lt_of_block HBo.out
      clear bb0 bb1 bbl
      obtain ⟨bb0, bb1⟩ := blk_cells2 HBb.out
      have bbl := lt_of_block HBb.out
      go_wp2_with fail
      refine (eqI_self _ _ _ _ p _ Hx1.out.sl Hy1.out.sl hnp).mono ?_
      rintro e w11 ⟨rfl, hb11⟩
      have Hw0 := Lib.hid (Hw0.out.below hb11)
      have Hx0 := Lib.hid (Hx0.out.below hb11)
      have Hx1 := Lib.hid (Hx1.out.below hb11)
      have Hg0 := Lib.hid (Hg0.out.below hb11)
      have Hy1 := Lib.hid (Hy1.out.below hb11)
      have Hb := Lib.hid (below_nx Hb.out hb11)
      have hz11 := hb11.size
      have HX := Lib.hid (below_blk hb11 (lt_of_block HX.out) HX.out)
      have HBa := Lib.hid (below_blk hb11 (lt_of_block HBa.out) HBa.out)
      have HBo := Lib.hid (below_blk hb11 (lt_of_block HBo.out) HBo.out)
      have HBb := Lib.hid (below_blk hb11 (lt_of_block HBb.out) HBb.out)
      clear hb11
      clear cX0 cX1 lX
      obtain ⟨cX0, cX1⟩ := blk_cells2 HX.out
      have lX := lt_of_block HX.out
      clear ba0 ba1 bal
      obtain ⟨ba0, ba1⟩ := blk_cells2 HBa.out
      have bal := lt_of_block HBa.out
      clear bo0 bo1 bol
      obtain ⟨bo0, bo1⟩ := blk_cells2 HBo.out
      have bol := lt_of_block HBo.out
      clear bb0 bb1 bbl
      obtain ⟨bb0, bb1⟩ := blk_cells2 HBb.out
      have bbl := lt_of_block HBb.out
      go_wp2_with fail
      refine (markCi1 _ _ n _ l _ Hx0.out (by omega) hnl).mono ?_
      rintro e w12 ⟨rfl, hd12, hm12⟩
      have Hw0 := Lib.hid (show gtE.Sc w12 _ _ _ _ by first | exact Hw0.out.lo hm12 (by omega) | exact Hw0.out.hi hm12 (by omega))
      have Hx1 := Lib.hid (show intE.Sc w12 _ _ _ _ by first | exact Hx1.out.lo hm12 (by omega) | exact Hx1.out.hi hm12 (by omega))
      have Hg0 := Lib.hid (show gtE.Sc w12 _ _ _ _ by first | exact Hg0.out.lo hm12 (by omega) | exact Hg0.out.hi hm12 (by omega))
      have Hx0 := Lib.hid hd12
      have hz12 := hm12.1.size
      have Hb := Lib.hid (mid_low Hb.out hm12 (by omega))
      have HX := Lib.hid ((hm12.1.block (w.heap.size) (by omega)).trans HX.out)
      have HBa := Lib.hid (show w12.heap[w4.heap.size]? = _ by first | exact (hm12.1.block w4.heap.size (by omega)).trans HBa.out | exact (hm12.2 w4.heap.size (by omega) (lt_of_block HBa.out)).trans HBa.out)
      have HBo := Lib.hid (show w12.heap[w5.heap.size]? = _ by first | exact (hm12.1.block w5.heap.size (by omega)).trans HBo.out | exact (hm12.2 w5.heap.size (by omega) (lt_of_block HBo.out)).trans HBo.out)
      have HBb := Lib.hid (show w12.heap[w7.heap.size]? = _ by first | exact (hm12.1.block w7.heap.size (by omega)).trans HBb.out | exact (hm12.2 w7.heap.size (by omega) (lt_of_block HBb.out)).trans HBb.out)
      clear hd12 hm12
      clear cX0 cX1 lX
      obtain ⟨cX0, cX1⟩ := blk_cells2 HX.out
      have lX := lt_of_block HX.out
      clear ba0 ba1 bal
      obtain ⟨ba0, ba1⟩ := blk_cells2 HBa.out
      have bal := lt_of_block HBa.out
      clear bo0 bo1 bol
      obtain ⟨bo0, bo1⟩ := blk_cells2 HBo.out
      have bol := lt_of_block HBo.out
      clear bb0 bb1 bbl
      obtain ⟨bb0, bb1⟩ := blk_cells2 HBb.out
      have bbl := lt_of_block HBb.out
      go_wp2_with fail
      refine (HmI.out _ _ _ _ Hx1.out).mono ?_
      rintro e w13 ⟨rfl, hd13, hm13⟩
      have Hw0 := Lib.hid (show gtE.Sc w13 _ _ _ _ by first | exact Hw0.out.lo hm13 (by omega) | exact Hw0.out.hi hm13 (by omega))
      have Hg0 := Lib.hid (show gtE.Sc w13 _ _ _ _ by first | exact Hg0.out.lo hm13 (by omega) | exact Hg0.out.hi hm13 (by omega))
      have Hx1 := Lib.hid hd13
      have hz13 := hm13.1.size
      have Hb := Lib.hid (mid_low Hb.out hm13 (by omega))
      have HX := Lib.hid ((hm13.1.block (w.heap.size) (by omega)).trans HX.out)
      have HBa := Lib.hid (show w13.heap[w4.heap.size]? = _ by first | exact (hm13.1.block w4.heap.size (by omega)).trans HBa.out | exact (hm13.2 w4.heap.size (by omega) (lt_of_block HBa.out)).trans HBa.out)
      have HBo := Lib.hid (show w13.heap[w5.heap.size]? = _ by first | exact (hm13.1.block w5.heap.size (by omega)).trans HBo.out | exact (hm13.2 w5.heap.size (by omega) (lt_of_block HBo.out)).trans HBo.out)
      have HBb := Lib.hid (show w13.heap[w7.heap.size]? = _ by first | exact (hm13.1.block w7.heap.size (by omega)).trans HBb.out | exact (hm13.2 w7.heap.size (by omega) (lt_of_block HBb.out)).trans HBb.out)
      clear hd13 hm13
      clear cX0 cX1 lX
      obtain ⟨cX0, cX1⟩ := blk_cells2 HX.out
      have lX := lt_of_block HX.out
      clear ba0 ba1 bal
      obtain ⟨ba0, ba1⟩ := blk_cells2 HBa.out
      have bal := lt_of_block HBa.out
      clear bo0 bo1 bol
      obtain ⟨bo0, bo1⟩ := blk_cells2 HBo.out
      have bol := lt_of_block HBo.out
      clear bb0 bb1 bbl
      obtain ⟨bb0, bb1⟩ := blk_cells2 HBb.out
      have bbl := lt_of_block HBb.out
      go_wp2_with fail
      refine (eqCi _ _ m _ _ r _ Hg0.out.sl Hw0.out.sl hr).mono ?_
      rintro e w14 ⟨rfl, hb14⟩
      have Hw0 := Lib.hid (Hw0.out.below hb14)
      have Hg0 := Lib.hid (Hg0.out.below hb14)
      have Hb := Lib.hid (below_nx Hb.out hb14)
      have hz14 := hb14.size
      have HX := Lib.hid (below_blk hb14 (lt_of_block HX.out) HX.out)
      have HBa := Lib.hid (below_blk hb14 (lt_of_block HBa.out) HBa.out)
      have HBo := Lib.hid (below_blk hb14 (lt_of_block HBo.out) HBo.out)
      have HBb := Lib.hid (below_blk hb14 (lt_of_block HBb.out) HBb.out)
      clear hb14
      clear cX0 cX1 lX
      obtain ⟨cX0, cX1⟩ := blk_cells2 HX.out
      have lX := lt_of_block HX.out
      clear ba0 ba1 bal
      obtain ⟨ba0, ba1⟩ := blk_cells2 HBa.out
      have bal := lt_of_block HBa.out
      clear bo0 bo1 bol
      obtain ⟨bo0, bo1⟩ := blk_cells2 HBo.out
      have bol := lt_of_block HBo.out
      clear bb0 bb1 bbl
      obtain ⟨bb0, bb1⟩ := blk_cells2 HBb.out
      have bbl := lt_of_block HBb.out
      go_wp2_with fail
      refine (markCi1 _ _ m _ r _ Hg0.out (by omega) hr).mono ?_
      rintro e w15 ⟨rfl, hd15, hm15⟩
      have Hw0 := Lib.hid (show gtE.Sc w15 _ _ _ _ by first | exact Hw0.out.lo hm15 (by omega) | exact Hw0.out.hi hm15 (by omega))
      have Hg0 := Lib.hid hd15
      have hz15 := hm15.1.size
      have Hb := Lib.hid (mid_low Hb.out hm15 (by omega))
      have HX := Lib.hid ((hm15.1.block (w.heap.size) (by omega)).trans HX.out)
      have HBa := Lib.hid (show w15.heap[w4.heap.size]? = _ by first | exact (hm15.1.block w4.heap.size (by omega)).trans HBa.out | exact (hm15.2 w4.heap.size (by omega) (lt_of_block HBa.out)).trans HBa.out)
      have HBo := Lib.hid (show w15.heap[w5.heap.size]? = _ by first | exact (hm15.1.block w5.heap.size (by omega)).trans HBo.out | exact (hm15.2 w5.heap.size (by omega) (lt_of_block HBo.out)).trans HBo.out)
      have HBb := Lib.hid (show w15.heap[w7.heap.size]? = _ by first | exact (hm15.1.block w7.heap.size (by omega)).trans HBb.out | exact (hm15.2 w7.heap.size (by omega) (lt_of_block HBb.out)).trans HBb.out)
      clear hd15 hm15
      clear cX0 cX1 lX
      obtain ⟨cX0, cX1⟩ := blk_cells2 HX.out
      have lX := lt_of_block HX.out
      clear ba0 ba1 bal
      obtain ⟨ba0, ba1⟩ := blk_cells2 HBa.out
      have bal := lt_of_block HBa.out
      clear bo0 bo1 bol
      obtain ⟨bo0, bo1⟩ := blk_cells2 HBo.out
      have bol := lt_of_block HBo.out
      clear bb0 bb1 bbl
      obtain ⟨bb0, bb1⟩ := blk_cells2 HBb.out
      have bbl := lt_of_block HBb.out
      go_wp2_with fail
      refine (heldCi1 _ r.length m _ _ Hg0.out.sl hr).mono ?_
      rintro e w16 ⟨rfl, hb16⟩
      have Hw0 := Lib.hid (Hw0.out.below hb16)
      have Hg0 := Lib.hid (Hg0.out.below hb16)
      have Hb := Lib.hid (below_nx Hb.out hb16)
      have hz16 := hb16.size
      have HX := Lib.hid (below_blk hb16 (lt_of_block HX.out) HX.out)
      have HBa := Lib.hid (below_blk hb16 (lt_of_block HBa.out) HBa.out)
      have HBo := Lib.hid (below_blk hb16 (lt_of_block HBo.out) HBo.out)
      have HBb := Lib.hid (below_blk hb16 (lt_of_block HBb.out) HBb.out)
      clear hb16
      clear cX0 cX1 lX
      obtain ⟨cX0, cX1⟩ := blk_cells2 HX.out
      have lX := lt_of_block HX.out
      clear ba0 ba1 bal
      obtain ⟨ba0, ba1⟩ := blk_cells2 HBa.out
      have bal := lt_of_block HBa.out
      clear bo0 bo1 bol
      obtain ⟨bo0, bo1⟩ := blk_cells2 HBo.out
      have bol := lt_of_block HBo.out
      clear bb0 bb1 bbl
      obtain ⟨bb0, bb1⟩ := blk_cells2 HBb.out
      have bbl := lt_of_block HBb.out
      go_wp2_with fail
      refine (Hto.out _ Hb.out).mono ?_
      rintro e w17 ⟨vs4, rfl, hd17, hb17⟩
      obtain ⟨ps4, qs4, rfl, -, -⟩ := id hd17
      have Hs4 := Lib.hid hd17.upto
      have Hw0 := Lib.hid (Hw0.out.below hb17)
      have Hg0 := Lib.hid (Hg0.out.below hb17)
      have Hb := Lib.hid (below_nx Hb.out hb17)
      have hz17 := hb17.size
      have HX := Lib.hid (below_blk hb17 (lt_of_block HX.out) HX.out)
      have HBa := Lib.hid (below_blk hb17 (lt_of_block HBa.out) HBa.out)
      have HBo := Lib.hid (below_blk hb17 (lt_of_block HBo.out) HBo.out)
      have HBb := Lib.hid (below_blk hb17 (lt_of_block HBb.out) HBb.out)
      clear hb17 hd17
      clear cX0 cX1 lX
      obtain ⟨cX0, cX1⟩ := blk_cells2 HX.out
      have lX := lt_of_block HX.out
      clear ba0 ba1 bal
      obtain ⟨ba0, ba1⟩ := blk_cells2 HBa.out
      have bal := lt_of_block HBa.out
      clear bo0 bo1 bol
      obtain ⟨bo0, bo1⟩ := blk_cells2 HBo.out
      have bol := lt_of_block HBo.out
      clear bb0 bb1 bbl
      obtain ⟨bb0, bb1⟩ := blk_cells2 HBb.out
      have bbl := lt_of_block HBb.out
      go_wp2_with fail
      refine (Htp.out _ Hb.out).mono ?_
      rintro e w18 ⟨vt4, rfl, hd18, hb18⟩
      have Ht4 := Lib.hid hd18.upto
      have Hw0 := Lib.hid (Hw0.out.below hb18)
      have Hg0 := Lib.hid (Hg0.out.below hb18)
      have Hs4 := Lib.hid (Hs4.out.below hb18)
      have Hb := Lib.hid (below_nx Hb.out hb18)
      have hz18 := hb18.size
      have HX := Lib.hid (below_blk hb18 (lt_of_block HX.out) HX.out)
      have HBa := Lib.hid (below_blk hb18 (lt_of_block HBa.out) HBa.out)
      have HBo := Lib.hid (below_blk hb18 (lt_of_block HBo.out) HBo.out)
      have HBb := Lib.hid (below_blk hb18 (lt_of_block HBb.out) HBb.out)
      clear hb18 hd18
      clear cX0 cX1 lX
      obtain ⟨cX0, cX1⟩ := blk_cells2 HX.out
      have lX := lt_of_block HX.out
      clear ba0 ba1 bal
      obtain ⟨ba0, ba1⟩ := blk_cells2 HBa.out
      have bal := lt_of_block HBa.out
      clear bo0 bo1 bol
      obtain ⟨bo0, bo1⟩ := blk_cells2 HBo.out
      have bol := lt_of_block HBo.out
      clear bb0 bb1 bbl
      obtain ⟨bb0, bb1⟩ := blk_cells2 HBb.out
      have bbl := lt_of_block HBb.out
      go_wp2_with fail
      refine (Him.out _ _ _ _ _ Hs4.out.sl Ht4.out.sl).mono ?_
      rintro e w19 ⟨⟨vh, rfl, hd19⟩, hb19⟩
      obtain ⟨ph0, qh0, rfl, -, -⟩ := id hd19
      have Hh0 := Lib.hid hd19.upto
      have Hh0 := Lib.hid (Hh0.out.below ((Below.refl _ _).alloc (Nat.le_refl _) (.cells #[.int .i64 m, .slice ph0 r.length qh0] 26)))
      have hy19 := hb19.size
      have hb19 := hb19.alloc hb19.size (.cells #[.int .i64 m, .slice ph0 r.length qh0] 26)
      have Hw0 := Lib.hid (Hw0.out.below hb19)
      have Hg0 := Lib.hid (Hg0.out.below hb19)
      have Hs4 := Lib.hid (Hs4.out.below hb19)
      have Ht4 := Lib.hid (Ht4.out.below hb19)
      have Hb := Lib.hid (below_nx Hb.out hb19)
      have hz19 := hb19.size
      simp only [size_alloc1] at hz19
      have ha19 := size_alloc1 w19 (.cells #[.int .i64 m, .slice ph0 r.length qh0] 26)
      have HX := Lib.hid (below_blk hb19 (lt_of_block HX.out) HX.out)
      have HBa := Lib.hid (below_blk hb19 (lt_of_block HBa.out) HBa.out)
      have HBo := Lib.hid (below_blk hb19 (lt_of_block HBo.out) HBo.out)
      have HBb := Lib.hid (below_blk hb19 (lt_of_block HBb.out) HBb.out)
      have HBe := Lib.hid (heap_alloc_new w19 (.cells #[.int .i64 m, .slice ph0 r.length qh0] 26))
      clear hb19 hd19
      clear cX0 cX1 lX
      obtain ⟨cX0, cX1⟩ := blk_cells2 HX.out
      have lX := lt_of_block HX.out
      clear ba0 ba1 bal
      obtain ⟨ba0, ba1⟩ := blk_cells2 HBa.out
      have bal := lt_of_block HBa.out
      clear bo0 bo1 bol
      obtain ⟨bo0, bo1⟩ := blk_cells2 HBo.out
      have bol := lt_of_block HBo.out
      clear bb0 bb1 bbl
      obtain ⟨bb0, bb1⟩ := blk_cells2 HBb.out
      have bbl := lt_of_block HBb.out
      obtain ⟨be0, be1⟩ := blk_cells2 HBe.out
      have bel := lt_of_block HBe.out
      go_wp2_with fail
      refine (eqCi _ _ m _ _ r _ Hh0.out.sl Hw0.out.sl hr).mono ?_
      rintro e w20 ⟨rfl, hb20⟩
      have Hw0 := Lib.hid (Hw0.out.below hb20)
      have Hg0 := Lib.hid (Hg0.out.below hb20)
      have Hh0 := Lib.hid (Hh0.out.below hb20)
      have Hb := Lib.hid (below_nx Hb.out hb20)
      have hz20 := hb20.size
      simp only [size_alloc1] at hz20
      have HX := Lib.hid (below_blk hb20 (lt_of_block HX.out) HX.out)
      have HBa := Lib.hid (below_blk hb20 (lt_of_block HBa.out) HBa.out)
      have HBo := Lib.hid (below_blk hb20 (lt_of_block HBo.out) HBo.out)
      have HBb := Lib.hid (below_blk hb20 (lt_of_block HBb.out) HBb.out)
      have HBe := Lib.hid (below_blk hb20 (lt_of_block HBe.out) HBe.out)
      clear hb20
      clear cX0 cX1 lX
      obtain ⟨cX0, cX1⟩ := blk_cells2 HX.out
      have lX := lt_of_block HX.out
      clear ba0 ba1 bal
      obtain ⟨ba0, ba1⟩ := blk_cells2 HBa.out
      have bal := lt_of_block HBa.out
      clear bo0 bo1 bol
      obtain ⟨bo0, bo1⟩ := blk_cells2 HBo.out
      have bol := lt_of_block HBo.out
      clear bb0 bb1 bbl
      obtain ⟨bb0, bb1⟩ := blk_cells2 HBb.out
      have bbl := lt_of_block HBb.out
      clear be0 be1 bel
      obtain ⟨be0, be1⟩ := blk_cells2 HBe.out
      have bel := lt_of_block HBe.out
      go_wp2_with fail
      refine (heldCi1 _ r.length m _ _ Hg0.out.sl hr).mono ?_
      rintro e w21 ⟨rfl, hb21⟩
      have Hw0 := Lib.hid (Hw0.out.below hb21)
      have Hg0 := Lib.hid (Hg0.out.below hb21)
      have Hh0 := Lib.hid (Hh0.out.below hb21)
      have Hb := Lib.hid (below_nx Hb.out hb21)
      have hz21 := hb21.size
      have HX := Lib.hid (below_blk hb21 (lt_of_block HX.out) HX.out)
      have HBa := Lib.hid (below_blk hb21 (lt_of_block HBa.out) HBa.out)
      have HBo := Lib.hid (below_blk hb21 (lt_of_block HBo.out) HBo.out)
      have HBb := Lib.hid (below_blk hb21 (lt_of_block HBb.out) HBb.out)
      have HBe := Lib.hid (below_blk hb21 (lt_of_block HBe.out) HBe.out)
      clear hb21
      clear cX0 cX1 lX
      obtain ⟨cX0, cX1⟩ := blk_cells2 HX.out
      have lX := lt_of_block HX.out
      clear ba0 ba1 bal
      obtain ⟨ba0, ba1⟩ := blk_cells2 HBa.out
      have bal := lt_of_block HBa.out
      clear bo0 bo1 bol
      obtain ⟨bo0, bo1⟩ := blk_cells2 HBo.out
      have bol := lt_of_block HBo.out
      clear bb0 bb1 bbl
      obtain ⟨bb0, bb1⟩ := blk_cells2 HBb.out
      have bbl := lt_of_block HBb.out
      clear be0 be1 bel
      obtain ⟨be0, be1⟩ := blk_cells2 HBe.out
      have bel := lt_of_block HBe.out
      go_wp2_with fail
      go_ret
      exact ⟨rfl, Hb.out⟩
    · clear hin hinp
      go_enter Try.func9, Try.ntmps9
      go_wp2_with fail
      refine (szCiBig n la l.length lc 1048576 _ hm (by omega) (by omega) (by omega)).mono ?_
      rintro e w1 ⟨rfl, hb1⟩
      have Hb := Lib.hid (below_nx Hb.out hb1)
      clear hb1
      go_wp2_with fail
      go_ret
      exact ⟨rfl, Hb.out⟩
  · unfold maxLen at hmp
    clear hin hinp
    go_enter Try.func9, Try.ntmps9
    go_wp2_with fail
    go_ret
    exact ⟨rfl, Hb.out⟩
open Go.ChangeMaps (open_string shut_string)
theorem laidOut : laidOutB Try.prog = true := by kernel_rfl
theorem own : ownKnob Try.prog.godebug = none := by kernel_rfl
set_option maxRecDepth 100000 in
/-- What the walk gives, for every argument. -/
theorem contract (H : Type) (enc : TypeId × Value → H) (W : World) (base : Nat) (args : Array Value) (ds gs : List (DataW H)) (before : List MemPlace)
    (hval : ∀ (j : Nat) t v, Try.f9.params[j]? = some t → args[j]? = some v → Value.okWide Try.prog W .any base t v)
    (hW : DataW.Whole enc Try.prog Try.f9.params.toList Rows.fnExactRelabelCircuitSpec.vars false W args.toList ds gs before) :
    Calls Try.prog 9 args W fun e W' => ∃ v, e = .returned v ∧ Rows.fnExactRelabelCircuitSpec.post enc Try.prog Try.f9 false true false false W args v W' := by
  have hW' := hW
  obtain ⟨p, q, hA0, hV, rfl, hfz, hnd⟩ := hW
  have hA : DataW.TrodAll enc Try.prog W 0 (fun _ => true) true Try.f9.params.toList args.toList ds p := hA0
  rw [Try.params9] at hA hval
  obtain ⟨v0, vs0, d0, ds0, p0, q0, hargs, rfl, rfl, h0, r0⟩ := trodAll_cons hA
  obtain ⟨v1, vs1, d1, ds1, p1, q1, rfl, rfl, rfl, h1, r1⟩ := trodAll_cons r0
  obtain ⟨rfl, rfl, rfl⟩ := trodAll_nil r1
  obtain rfl : args = #[v0, v1] := by cases args; simp_all
  obtain ⟨rfl, rfl⟩ := trodVars_none hV
  have k0 := h0
  have lt0 : ∀ x ∈ p0, x.block < W.heap.size := by obtain ⟨m, hm⟩ := k0; exact DataW.trod_lt m _ _ _ hm
  obtain ⟨l0, l1, ly0, ly1, lm, rfl, rfl, rfl, lt0, lt1⟩ := Go.Joins.open_agg2 Try.underlying50 (by kernel_rfl) (by kernel_rfl) (hval 0 50 v0 rfl rfl) h0
  obtain ⟨lN, ela, -, wlN⟩ := DataW.trod_int Try.underlying3 lt0
  obtain rfl := List.head_eq_of_cons_eq ela
  obtain ⟨la, lc, l, rfl, lh⟩ := open_gs1 lt1
  clear ela lt0 lt1
  have k1 := h1
  have lt1 : ∀ x ∈ p1, x.block < W.heap.size := by obtain ⟨m, hm⟩ := k1; exact DataW.trod_lt m _ _ _ hm
  obtain ⟨pa, pc, p, rfl, ph⟩ := open_is (hval 1 56 v1 rfl rfl) h1
  clear hA0
  simp only [List.append_nil] at hW'
  refine (walk lN la lc l pa pc p W (bounds_i64 wlN).1 (bounds_i64 wlN).2 lh ph).mono fun e W' ⟨he, hg⟩ => ?_
  subst he
  exact ⟨_, rfl, _, _, _, [], _, [], hW', trodAll_mk1 (shut_bool Try.underlying4 _), (trodAll_cons_mk (Below.trod laidOut (by kernel_rfl) (of_decide_eq_true (by kernel_rfl)) k0 hg lt0) (trodAll_cons_mk (Below.trod laidOut (by kernel_rfl) (of_decide_eq_true (by kernel_rfl)) k1 hg lt1) trodAll_mk0)), rfl, hg.frame _, fun h => by cases h⟩
set_option maxRecDepth 100000 in
theorem lifted (os : Os) (started : os.Started) (H : Type) (enc : TypeId × Value → H) :
    ReturnsInHanded {} Try.checked os 9 .any (Rows.fnExactRelabelCircuitSpec.pre6 enc Try.prog Try.f9 Rows.fnExactRelabelCircuitRow.domain false) (Rows.fnExactRelabelCircuitSpec.post enc Try.prog Try.f9 false true false false) := by
  refine returnsInHanded_of_change (C := Try.checked) own started (by kernel_rfl) Try.func9
    (ChangeSpec.witness6 (enc := enc) (C := Try.checked) false ⟨#[], #[.agg #[.int .i64 0, .slice none 0 0], .slice none 0 0], []⟩ 8 (by kernel_rfl) (by kernel_rfl) (by kernel_rfl) (by kernel_rfl)) ?_
  intro W base args ds gs before hval hW _ _
  exact contract H enc W base args ds gs before hval hW
theorem closedFacts : joinedFacts Try.pinned.checked.prog 9 Try.f9 Rows.fnExactRelabelCircuitSpec Rows.fnExactRelabelCircuitRow = true := by
  unfold joinedFacts
  rw [init_may, init_facts.2.1, init_facts.2.2]
  kernel_rfl
theorem said : Rows.FnExactRelabelCircuitSaid :=
  OpenClaim.holds_of_wide 9 Try.f9 rfl rfl rfl rfl rfl rfl rfl ⟨rfl, rfl, rfl, rfl, rfl⟩ rfl rfl rfl rfl rfl (by kernel_rfl) Try.func9 closedFacts
    (of_decide_eq_true (by kernel_rfl)) (by unfold Func.isWrapper; first | (rw [if_pos (by decide +kernel)]; kernel_rfl) | (rw [if_neg (by decide +kernel)]; exact ⟨rfl, rfl⟩))
    (fun os started H enc _ => lifted os started H enc)
end Go.Proofs.Ytmpafidkpangeaa.fnExactRelabelCircuit
