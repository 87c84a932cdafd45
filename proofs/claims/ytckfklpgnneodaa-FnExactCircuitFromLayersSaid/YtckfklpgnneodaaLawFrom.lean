/- The law FnExactCircuitFromLayers: CircuitFromLayers answers as its model, at every number and every list of layers. No condition. -/
import Derived.Test.YtckfklpgnneodaaInit
import Derived.Test.YtckfklpgnneodaaLyKf
import Derived.Test.YtckfklpgnneodaaLyF
import Derived.Test.YtckfklpgnneodaaBaseB13
import Derived.Test.YtckfklpgnneodaaCiL
import Derived.Test.YtckfklpgnneodaaBaseB09
import Derived.Test.YtckfklpgnneodaaBaseB15
import Derived.Test.YtckfklpgnneodaaBaseB08
import Derived.Lib.SmallJoins
import Derived.WalkKit
import Derived.ProofKit
import Derived.OpenShut
import Derived.Deep.DeepHandedRow
import Derived.Lib.LaidTab
import Derived.LaidMore
import Derived.LaidHandle
import Derived.Lay
import Derived.Stop.LaidErr
namespace Go.Proofs.Ytckfklpgnneodaa.fnExactCircuitFromLayers
open Go.ChangeShapes Go.WideShapes Go.ChangeAt Go.RowKit Go.Lib
attribute [local irreducible] World.cell?
set_option maxRecDepth 100000 in
set_option maxHeartbeats 12800000 in
theorem walk (n : Int) (Ma : Option Addr) (Mc : Nat) (M : List (List Gt)) (w : World) (n0 : -9223372036854775808 ≤ n) (n1 : n ≤ 9223372036854775807) (hin : MgIn w w.heap.size Ma M) :
    Calls Try.prog 9 #[.int .i64 n, .slice Ma M.length Mc] w fun e w' => e = .returned (.bool true) ∧ Below w.heap.size w w' := by
  by_cases hl : (M.length : Int) + ampsG M ≤ 1048576
  · have hnM : M.length ≤ 1048576 := by omega
    have hmM : ampsG M ≤ 1048576 := by omega
    have hfM : M.flatten.length ≤ 1048576 := by rw [flat_amps]; exact hmM
    have Hsz := Lib.hid (fun W (h : MgIn W w.heap.size Ma M) => szMg Ma Mc w.heap.size M 1048576 W h (by omega) (by omega))
    rw [if_pos hl] at Hsz
    have Hin := Lib.hid hin
    have Hto := Lib.hid (fun W (hb : Below w.heap.size w W) => toMg Ma Mc M W ((Hin.out.below hb).mono hb.size) hnM hmM)
    have Hsp := Lib.hid (fun W B C v (h : GSM W B C v M) => scfrom B C n v M W h hnM hfM)
    have Him := Lib.hid (fun W B C v (h : GSM W B C v M) => icfrom B C n v M W h hnM hfM n0 n1)
    have hr : (cfL n M).length ≤ 1048576 := by unfold cfL; split <;> first | exact hfM | simp
    generalize cfL n M = r at *
    generalize cfN n M = q at *
    generalize cfB n M = t at *
    have htt : (t != t) = false := by simp
    have hk0 : ¬ (1 + (ampsG M : Int) * 4 < 0) := by omega
    have hs0 : ¬ ((1048576 : Int) - M.length - ampsG M < 0) := by omega
    have Hb := Lib.hid (Below.refl w.heap.size w)
    clear hin hfM
    go_enter Try.func9, Try.ntmps9
    go_wp2_with fail
    refine (Hsz.out _ Hin.out).mono ?_
    rintro e w0 ⟨rfl, rfl⟩
    clear Hsz
    generalize (1048576 : Int) - M.length - ampsG M = left at *
    go_wp2_with fail
    refine (Hto.out _ Hb.out).mono ?_
    rintro e w1 ⟨vs0, rfl, hd1, hb1⟩
    have Hs0 := Lib.hid hd1
    have Hb := Lib.hid (below_nx Hb.out hb1)
    have hz1 := hb1.size
    clear hb1 hd1
    go_wp2_with fail
    refine (Hsp.out _ _ _ _ Hs0.out).mono ?_
    rintro e w2 ⟨⟨vw, rfl, hd2⟩, hb2⟩
    obtain ⟨pw0, qw0, rfl, -, -⟩ := id hd2
    have Hw0 := Lib.hid hd2.upto
    have Hw0 := Lib.hid (Hw0.out.below ((Below.refl _ _).alloc (Nat.le_refl _) (.cells #[.int .i64 q, .slice pw0 r.length qw0] 26)))
    have hy2 := hb2.size
    have hb2 := hb2.alloc hb2.size (.cells #[.int .i64 q, .slice pw0 r.length qw0] 26)
    have Hs0 := Lib.hid (Hs0.out.below hb2)
    have Hb := Lib.hid (below_nx Hb.out hb2)
    have hz2 := hb2.size
    simp only [size_alloc1] at hz2
    have ha2 := size_alloc1 w2 (.cells #[.int .i64 q, .slice pw0 r.length qw0] 26)
    have HBa := Lib.hid (heap_alloc_new w2 (.cells #[.int .i64 q, .slice pw0 r.length qw0] 26))
    clear hb2 hd2
    obtain ⟨ba0, ba1⟩ := blk_cells2 HBa.out
    have bal := lt_of_block HBa.out
    go_wp2_with fail
    refine (Hto.out _ Hb.out).mono ?_
    rintro e w3 ⟨vx0, rfl, hd3, hb3⟩
    have Hx0 := Lib.hid hd3
    have Hw0 := Lib.hid (Hw0.out.below hb3)
    have Hb := Lib.hid (below_nx Hb.out hb3)
    have hz3 := hb3.size
    simp only [size_alloc1] at hz3
    have HBa := Lib.hid (below_blk hb3 (lt_of_block HBa.out) HBa.out)
    clear hb3 hd3
    clear ba0 ba1 bal
    obtain ⟨ba0, ba1⟩ := blk_cells2 HBa.out
    have bal := lt_of_block HBa.out
    go_wp2_with fail
    refine (Him.out _ _ _ _ Hx0.out).mono ?_
    rintro e w4 ⟨⟨vg, rfl, hd4⟩, hb4⟩
    obtain ⟨pg0, qg0, rfl, -, -⟩ := id hd4
    have Hg0 := Lib.hid hd4.upto
    have Hg0 := Lib.hid (Hg0.out.below ((Below.refl _ _).alloc (Nat.le_refl _) (.cells #[.int .i64 q, .slice pg0 r.length qg0] 26)))
    have hy4 := hb4.size
    have hb4 := hb4.alloc hb4.size (.cells #[.int .i64 q, .slice pg0 r.length qg0] 26)
    have Hw0 := Lib.hid (Hw0.out.below hb4)
    have Hx0 := Lib.hid (Hx0.out.below hb4)
    have Hb := Lib.hid (below_nx Hb.out hb4)
    have hz4 := hb4.size
    simp only [size_alloc1] at hz4
    have ha4 := size_alloc1 w4 (.cells #[.int .i64 q, .slice pg0 r.length qg0] 26)
    have HBa := Lib.hid (below_blk hb4 (lt_of_block HBa.out) HBa.out)
    have HBb := Lib.hid (heap_alloc_new w4 (.cells #[.int .i64 q, .slice pg0 r.length qg0] 26))
    clear hb4 hd4
    clear ba0 ba1 bal
    obtain ⟨ba0, ba1⟩ := blk_cells2 HBa.out
    have bal := lt_of_block HBa.out
    obtain ⟨bb0, bb1⟩ := blk_cells2 HBb.out
    have bbl := lt_of_block HBb.out
    go_wp2_with fail
    refine (eqCi _ _ q _ _ r _ Hg0.out.sl Hw0.out.sl hr).mono ?_
    rintro e w5 ⟨rfl, hb5⟩
    have Hw0 := Lib.hid (Hw0.out.below hb5)
    have Hx0 := Lib.hid (Hx0.out.below hb5)
    have Hg0 := Lib.hid (Hg0.out.below hb5)
    have Hb := Lib.hid (below_nx Hb.out hb5)
    have hz5 := hb5.size
    simp only [size_alloc1] at hz5
    have HBa := Lib.hid (below_blk hb5 (lt_of_block HBa.out) HBa.out)
    have HBb := Lib.hid (below_blk hb5 (lt_of_block HBb.out) HBb.out)
    clear hb5
    clear ba0 ba1 bal
    obtain ⟨ba0, ba1⟩ := blk_cells2 HBa.out
    have bal := lt_of_block HBa.out
    clear bb0 bb1 bbl
    obtain ⟨bb0, bb1⟩ := blk_cells2 HBb.out
    have bbl := lt_of_block HBb.out
    go_wp2_with fail
    refine (Hto.out _ Hb.out).mono ?_
    rintro e w6 ⟨vy0, rfl, hd6, hb6⟩
    have Hy0 := Lib.hid hd6
    have Hw0 := Lib.hid (Hw0.out.below hb6)
    have Hx0 := Lib.hid (Hx0.out.below hb6)
    have Hg0 := Lib.hid (Hg0.out.below hb6)
    have Hb := Lib.hid (below_nx Hb.out hb6)
    have hz6 := hb6.size
    have HBa := Lib.hid (below_blk hb6 (lt_of_block HBa.out) HBa.out)
    have HBb := Lib.hid (below_blk hb6 (lt_of_block HBb.out) HBb.out)
    clear hb6 hd6
    clear ba0 ba1 bal
    obtain ⟨ba0, ba1⟩ := blk_cells2 HBa.out
    have bal := lt_of_block HBa.out
    clear bb0 bb1 bbl
    obtain ⟨bb0, bb1⟩ := blk_cells2 HBb.out
    have bbl := lt_of_block HBb.out
    go_wp2_with fail
    refine (eqMg _ _ _ _ _ _ M _ Hx0.out Hy0.out hnM hmM).mono ?_
    rintro e w7 ⟨rfl, hb7⟩
    have Hw0 := Lib.hid (Hw0.out.below hb7)
    have Hx0 := Lib.hid (Hx0.out.below hb7)
    have Hg0 := Lib.hid (Hg0.out.below hb7)
    have Hy0 := Lib.hid (Hy0.out.below hb7)
    have Hb := Lib.hid (below_nx Hb.out hb7)
    have hz7 := hb7.size
    have HBa := Lib.hid (below_blk hb7 (lt_of_block HBa.out) HBa.out)
    have HBb := Lib.hid (below_blk hb7 (lt_of_block HBb.out) HBb.out)
    clear hb7
    clear ba0 ba1 bal
    obtain ⟨ba0, ba1⟩ := blk_cells2 HBa.out
    have bal := lt_of_block HBa.out
    clear bb0 bb1 bbl
    obtain ⟨bb0, bb1⟩ := blk_cells2 HBb.out
    have bbl := lt_of_block HBb.out
    go_wp2_with fail
    refine (markMg1 _ _ _ M _ Hx0.out hnM hmM).mono ?_
    rintro e w8 ⟨rfl, hd8, hm8⟩
    have Hw0 := Lib.hid (show gtE.Sc w8 _ _ _ _ by first | exact Hw0.out.lo hm8 (by omega) | exact Hw0.out.hi hm8 (by omega))
    have Hg0 := Lib.hid (show gtE.Sc w8 _ _ _ _ by first | exact Hg0.out.lo hm8 (by omega) | exact Hg0.out.hi hm8 (by omega))
    have Hx0 := Lib.hid hd8
    have hz8 := hm8.1.size
    have Hb := Lib.hid (mid_low Hb.out hm8 (by omega))
    have HBa := Lib.hid (show w8.heap[w2.heap.size]? = _ by first | exact (hm8.1.block w2.heap.size (by omega)).trans HBa.out | exact (hm8.2 w2.heap.size (by omega) (lt_of_block HBa.out)).trans HBa.out)
    have HBb := Lib.hid (show w8.heap[w4.heap.size]? = _ by first | exact (hm8.1.block w4.heap.size (by omega)).trans HBb.out | exact (hm8.2 w4.heap.size (by omega) (lt_of_block HBb.out)).trans HBb.out)
    clear hd8 hm8
    clear ba0 ba1 bal
    obtain ⟨ba0, ba1⟩ := blk_cells2 HBa.out
    have bal := lt_of_block HBa.out
    clear bb0 bb1 bbl
    obtain ⟨bb0, bb1⟩ := blk_cells2 HBb.out
    have bbl := lt_of_block HBb.out
    go_wp2_with fail
    refine (eqCi _ _ q _ _ r _ Hg0.out.sl Hw0.out.sl hr).mono ?_
    rintro e w9 ⟨rfl, hb9⟩
    have Hw0 := Lib.hid (Hw0.out.below hb9)
    have Hg0 := Lib.hid (Hg0.out.below hb9)
    have Hb := Lib.hid (below_nx Hb.out hb9)
    have hz9 := hb9.size
    have HBa := Lib.hid (below_blk hb9 (lt_of_block HBa.out) HBa.out)
    have HBb := Lib.hid (below_blk hb9 (lt_of_block HBb.out) HBb.out)
    clear hb9
    clear ba0 ba1 bal
    obtain ⟨ba0, ba1⟩ := blk_cells2 HBa.out
    have bal := lt_of_block HBa.out
    clear bb0 bb1 bbl
    obtain ⟨bb0, bb1⟩ := blk_cells2 HBb.out
    have bbl := lt_of_block HBb.out
    go_wp2_with fail
    refine (markCi1 _ _ q _ r _ Hg0.out (by omega) hr).mono ?_
    rintro e w10 ⟨rfl, hd10, hm10⟩
    have Hw0 := Lib.hid (show gtE.Sc w10 _ _ _ _ by first | exact Hw0.out.lo hm10 (by omega) | exact Hw0.out.hi hm10 (by omega))
    have Hg0 := Lib.hid hd10
    have hz10 := hm10.1.size
    have Hb := Lib.hid (mid_low Hb.out hm10 (by omega))
    have HBa := Lib.hid (show w10.heap[w2.heap.size]? = _ by first | exact (hm10.1.block w2.heap.size (by omega)).trans HBa.out | exact (hm10.2 w2.heap.size (by omega) (lt_of_block HBa.out)).trans HBa.out)
    have HBb := Lib.hid (show w10.heap[w4.heap.size]? = _ by first | exact (hm10.1.block w4.heap.size (by omega)).trans HBb.out | exact (hm10.2 w4.heap.size (by omega) (lt_of_block HBb.out)).trans HBb.out)
    clear hd10 hm10
    clear ba0 ba1 bal
    obtain ⟨ba0, ba1⟩ := blk_cells2 HBa.out
    have bal := lt_of_block HBa.out
    clear bb0 bb1 bbl
    obtain ⟨bb0, bb1⟩ := blk_cells2 HBb.out
    have bbl := lt_of_block HBb.out
    go_wp2_with fail
    refine (heldCi1 _ r.length q _ _ Hg0.out.sl hr).mono ?_
    rintro e w11 ⟨rfl, hb11⟩
    have Hw0 := Lib.hid (Hw0.out.below hb11)
    have Hg0 := Lib.hid (Hg0.out.below hb11)
    have Hb := Lib.hid (below_nx Hb.out hb11)
    have hz11 := hb11.size
    have HBa := Lib.hid (below_blk hb11 (lt_of_block HBa.out) HBa.out)
    have HBb := Lib.hid (below_blk hb11 (lt_of_block HBb.out) HBb.out)
    clear hb11
    clear ba0 ba1 bal
    obtain ⟨ba0, ba1⟩ := blk_cells2 HBa.out
    have bal := lt_of_block HBa.out
    clear bb0 bb1 bbl
    obtain ⟨bb0, bb1⟩ := blk_cells2 HBb.out
    have bbl := lt_of_block HBb.out
    go_wp2_with fail
    refine (Hto.out _ Hb.out).mono ?_
    rintro e w12 ⟨vs4, rfl, hd12, hb12⟩
    have Hs4 := Lib.hid hd12
    have Hw0 := Lib.hid (Hw0.out.below hb12)
    have Hg0 := Lib.hid (Hg0.out.below hb12)
    have Hb := Lib.hid (below_nx Hb.out hb12)
    have hz12 := hb12.size
    have HBa := Lib.hid (below_blk hb12 (lt_of_block HBa.out) HBa.out)
    have HBb := Lib.hid (below_blk hb12 (lt_of_block HBb.out) HBb.out)
    clear hb12 hd12
    clear ba0 ba1 bal
    obtain ⟨ba0, ba1⟩ := blk_cells2 HBa.out
    have bal := lt_of_block HBa.out
    clear bb0 bb1 bbl
    obtain ⟨bb0, bb1⟩ := blk_cells2 HBb.out
    have bbl := lt_of_block HBb.out
    go_wp2_with fail
    refine (Him.out _ _ _ _ Hs4.out).mono ?_
    rintro e w13 ⟨⟨vh, rfl, hd13⟩, hb13⟩
    obtain ⟨ph0, qh0, rfl, -, -⟩ := id hd13
    have Hh0 := Lib.hid hd13.upto
    have Hh0 := Lib.hid (Hh0.out.below ((Below.refl _ _).alloc (Nat.le_refl _) (.cells #[.int .i64 q, .slice ph0 r.length qh0] 26)))
    have hy13 := hb13.size
    have hb13 := hb13.alloc hb13.size (.cells #[.int .i64 q, .slice ph0 r.length qh0] 26)
    have Hw0 := Lib.hid (Hw0.out.below hb13)
    have Hg0 := Lib.hid (Hg0.out.below hb13)
    have Hs4 := Lib.hid (Hs4.out.below hb13)
    have Hb := Lib.hid (below_nx Hb.out hb13)
    have hz13 := hb13.size
    simp only [size_alloc1] at hz13
    have ha13 := size_alloc1 w13 (.cells #[.int .i64 q, .slice ph0 r.length qh0] 26)
    have HBa := Lib.hid (below_blk hb13 (lt_of_block HBa.out) HBa.out)
    have HBb := Lib.hid (below_blk hb13 (lt_of_block HBb.out) HBb.out)
    have HBe := Lib.hid (heap_alloc_new w13 (.cells #[.int .i64 q, .slice ph0 r.length qh0] 26))
    clear hb13 hd13
    clear ba0 ba1 bal
    obtain ⟨ba0, ba1⟩ := blk_cells2 HBa.out
    have bal := lt_of_block HBa.out
    clear bb0 bb1 bbl
    obtain ⟨bb0, bb1⟩ := blk_cells2 HBb.out
    have bbl := lt_of_block HBb.out
    obtain ⟨be0, be1⟩ := blk_cells2 HBe.out
    have bel := lt_of_block HBe.out
    go_wp2_with fail
    refine (eqCi _ _ q _ _ r _ Hh0.out.sl Hw0.out.sl hr).mono ?_
    rintro e w14 ⟨rfl, hb14⟩
    have Hw0 := Lib.hid (Hw0.out.below hb14)
    have Hg0 := Lib.hid (Hg0.out.below hb14)
    have Hh0 := Lib.hid (Hh0.out.below hb14)
    have Hb := Lib.hid (below_nx Hb.out hb14)
    have hz14 := hb14.size
    simp only [size_alloc1] at hz14
    have HBa := Lib.hid (below_blk hb14 (lt_of_block HBa.out) HBa.out)
    have HBb := Lib.hid (below_blk hb14 (lt_of_block HBb.out) HBb.out)
    have HBe := Lib.hid (below_blk hb14 (lt_of_block HBe.out) HBe.out)
    clear hb14
    clear ba0 ba1 bal
    obtain ⟨ba0, ba1⟩ := blk_cells2 HBa.out
    have bal := lt_of_block HBa.out
    clear bb0 bb1 bbl
    obtain ⟨bb0, bb1⟩ := blk_cells2 HBb.out
    have bbl := lt_of_block HBb.out
    clear be0 be1 bel
    obtain ⟨be0, be1⟩ := blk_cells2 HBe.out
    have bel := lt_of_block HBe.out
    go_wp2_with fail
    refine (heldCi1 _ r.length q _ _ Hg0.out.sl hr).mono ?_
    rintro e w15 ⟨rfl, hb15⟩
    have Hw0 := Lib.hid (Hw0.out.below hb15)
    have Hg0 := Lib.hid (Hg0.out.below hb15)
    have Hh0 := Lib.hid (Hh0.out.below hb15)
    have Hb := Lib.hid (below_nx Hb.out hb15)
    have hz15 := hb15.size
    have HBa := Lib.hid (below_blk hb15 (lt_of_block HBa.out) HBa.out)
    have HBb := Lib.hid (below_blk hb15 (lt_of_block HBb.out) HBb.out)
    have HBe := Lib.hid (below_blk hb15 (lt_of_block HBe.out) HBe.out)
    clear hb15
    clear ba0 ba1 bal
    obtain ⟨ba0, ba1⟩ := blk_cells2 HBa.out
    have bal := lt_of_block HBa.out
    clear bb0 bb1 bbl
    obtain ⟨bb0, bb1⟩ := blk_cells2 HBb.out
    have bbl := lt_of_block HBb.out
    clear be0 be1 bel
    obtain ⟨be0, be1⟩ := blk_cells2 HBe.out
    have bel := lt_of_block HBe.out
    go_wp2_with fail
    go_ret
    exact ⟨rfl, Hb.out⟩
  · have Hsz := Lib.hid (fun W (h : MgIn W w.heap.size Ma M) => szMg Ma Mc w.heap.size M 1048576 W h (by omega) (by omega))
    rw [if_neg hl] at Hsz
    have Hin := Lib.hid hin
    clear hin
    go_enter Try.func9, Try.ntmps9
    go_wp2_with fail
    refine (Hsz.out _ Hin.out).mono ?_
    rintro e w0 ⟨rfl, rfl⟩
    go_wp2_with fail
    go_ret
    exact ⟨rfl, Below.refl _ _⟩
open Go.ChangeMaps (open_string shut_string)
theorem laidOut : laidOutB Try.prog = true := by kernel_rfl
theorem own : ownKnob Try.prog.godebug = none := by kernel_rfl
set_option maxRecDepth 100000 in
/-- What the walk gives, for every argument. -/
theorem contract (H : Type) (enc : TypeId × Value → H) (W : World) (base : Nat) (args : Array Value) (ds gs : List (DataW H)) (before : List MemPlace)
    (hval : ∀ (j : Nat) t v, Try.f9.params[j]? = some t → args[j]? = some v → Value.okWide Try.prog W .any base t v)
    (hW : DataW.Whole enc Try.prog Try.f9.params.toList Rows.fnExactCircuitFromLayersSpec.vars false W args.toList ds gs before) :
    Calls Try.prog 9 args W fun e W' => ∃ v, e = .returned v ∧ Rows.fnExactCircuitFromLayersSpec.post enc Try.prog Try.f9 false true false false W args v W' := by
  have hW' := hW
  obtain ⟨p, q, hA0, hV, rfl, hfz, hnd⟩ := hW
  have hA : DataW.TrodAll enc Try.prog W 0 (fun _ => true) true Try.f9.params.toList args.toList ds p := hA0
  rw [Try.params9] at hA hval
  obtain ⟨v0, vs0, d0, ds0, p0, q0, hargs, rfl, rfl, h0, r0⟩ := trodAll_cons hA
  obtain ⟨v1, vs1, d1, ds1, p1, q1, rfl, rfl, rfl, h1, r1⟩ := trodAll_cons r0
  obtain ⟨rfl, rfl, rfl⟩ := trodAll_nil r1
  obtain rfl : args = #[v0, v1] := by cases args; simp_all
  obtain ⟨rfl, rfl⟩ := trodVars_none hV
  obtain ⟨n, rfl, rfl, rfl, wn⟩ := open_int Try.underlying3 (hval 0 3 v0 rfl rfl) h0
  have k1 := h1
  have lt1 : ∀ x ∈ p1, x.block < W.heap.size := by obtain ⟨m, hm⟩ := k1; exact DataW.trod_lt m _ _ _ hm
  obtain ⟨Ma, Mc, M, rfl, Mh⟩ := open_mg (hval 1 45 v1 rfl rfl) h1
  clear hA0
  simp only [List.append_nil] at hW'
  refine (walk n Ma Mc M W (bounds_i64 wn).1 (bounds_i64 wn).2 Mh).mono fun e W' ⟨he, hg⟩ => ?_
  subst he
  exact ⟨_, rfl, _, _, _, [], _, [], hW', trodAll_mk1 (shut_bool Try.underlying4 _), (trodAll_cons_mk (shut_int Try.underlying3 wn) (trodAll_cons_mk (Below.trod laidOut (by kernel_rfl) (of_decide_eq_true (by kernel_rfl)) k1 hg lt1) trodAll_mk0)), rfl, hg.frame _, fun h => by cases h⟩
set_option maxRecDepth 100000 in
theorem lifted (os : Os) (started : os.Started) (H : Type) (enc : TypeId × Value → H) :
    ReturnsInHanded {} Try.checked os 9 .any (Rows.fnExactCircuitFromLayersSpec.pre6 enc Try.prog Try.f9 Rows.fnExactCircuitFromLayersRow.domain false) (Rows.fnExactCircuitFromLayersSpec.post enc Try.prog Try.f9 false true false false) := by
  refine returnsInHanded_of_change (C := Try.checked) own started (by kernel_rfl) Try.func9
    (ChangeSpec.witness6 (enc := enc) (C := Try.checked) false ⟨#[], #[.int .i64 0, .slice none 0 0], []⟩ 8 (by kernel_rfl) (by kernel_rfl) (by kernel_rfl) (by kernel_rfl)) ?_
  intro W base args ds gs before hval hW _ _
  exact contract H enc W base args ds gs before hval hW
theorem closedFacts : joinedFacts Try.pinned.checked.prog 9 Try.f9 Rows.fnExactCircuitFromLayersSpec Rows.fnExactCircuitFromLayersRow = true := by
  unfold joinedFacts
  rw [init_may, init_facts.2.1, init_facts.2.2]
  kernel_rfl
theorem said : Rows.FnExactCircuitFromLayersSaid :=
  OpenClaim.holds_of_wide 9 Try.f9 rfl rfl rfl rfl rfl rfl rfl ⟨rfl, rfl, rfl, rfl, rfl⟩ rfl rfl rfl rfl rfl (by kernel_rfl) Try.func9 closedFacts
    (of_decide_eq_true (by kernel_rfl)) (by unfold Func.isWrapper; first | (rw [if_pos (by decide +kernel)]; kernel_rfl) | (rw [if_neg (by decide +kernel)]; exact ⟨rfl, rfl⟩))
    (fun os started H enc _ => lifted os started H enc)
end Go.Proofs.Ytckfklpgnneodaa.fnExactCircuitFromLayers
