/- The law FnMovedCirc: a relabelled circuit performs the same operation on the relabelled qubits, at every code. No condition. -/
import Derived.Test.YtmpafidkpangeaaGreatInit
import Derived.Test.YtmpafidkpangeaaGreatCiKr
import Derived.Test.YtmpafidkpangeaaGreatBaseB17
import Derived.Test.YtmpafidkpangeaaGreatBaseB18
import Derived.Test.YtmpafidkpangeaaGreatBaseB19
import Derived.Lib.SmallJoins
import Derived.WalkKit
import Derived.ProofKit
import Derived.OpenShut
import Derived.Deep.DeepHandedRow
import Derived.Lib.LaidTab
import Derived.LaidMore
import Derived.LaidHandle
import Derived.Lay
import Derived.Stop.LaidErr
namespace Go.Proofs.YtmpafidkpangeaaGreat.fnMovedCirc
open Go.ChangeShapes Go.WideShapes Go.ChangeAt Go.RowKit Go.Lib
attribute [local irreducible] World.cell?
set_option maxRecDepth 100000 in
set_option maxHeartbeats 12800000 in
theorem core (a0 : Option Addr) (len cap : Nat) (hs : len ≤ 1048576) (_ : len ≤ cap) (w : World) (hcode : CodeAt w w.heap.size a0 len) :
    Calls Tryz.prog 5 #[.slice a0 len cap] w fun e w' => e = .returned (.bool true) ∧ Below w.heap.size w w' := by
  have Hc := Lib.hid hcode
  have Hb := Lib.hid (Below.refl w.heap.size w)
  clear hcode
  go_enter Tryz.func5, Tryz.ntmps5
  go_wp2_with (go_at_call 7; go_in)
  refine (drawRelabelCircuit a0 len cap _ Hc.out).mono ?_
  rintro e w1 ⟨⟨n, vc0, vp0, L, p, rfl, hci, hpl, hpe, hd1, hp1⟩, hb1⟩
  obtain ⟨pc0, qc0, rfl, -, -⟩ := id hd1
  have Hc0 := Lib.hid hd1.upto
  have Hc0 := Lib.hid (Hc0.out.below ((Below.refl _ _).alloc (Nat.le_refl _) (.cells #[.int .i64 n, .slice pc0 L.length qc0] 26)))
  have hy1 := hb1.size
  have hb1 := hb1.alloc hb1.size (.cells #[.int .i64 n, .slice pc0 L.length qc0] 26)
  have Hb := Lib.hid (below_nx Hb.out hb1)
  have hz1 := hb1.size
  simp only [size_alloc1] at hz1
  have ha1 := size_alloc1 w1 (.cells #[.int .i64 n, .slice pc0 L.length qc0] 26)
  have HBc := Lib.hid (heap_alloc_new w1 (.cells #[.int .i64 n, .slice pc0 L.length qc0] 26))
  clear hb1 hd1
  obtain ⟨bc0, bc1⟩ := blk_cells2 HBc.out
  have bcl := lt_of_block HBc.out
  have Hp0 := Lib.hid ((hp1.below ((Below.refl _ _).alloc (Nat.le_refl _) (.cells #[.int .i64 n, .slice pc0 L.length qc0] 26))).upto)
  clear hp1
  have hln : L.length ≤ 61 := hci.2.1
  have n0 : -9223372036854775808 ≤ n := by have := hci.1; omega
  have n1 : n ≤ 9223372036854775807 := by have := hci.1; omega
  have HU := Lib.hid (fun h h1 h2 h3 h4 => law_moved (n := n) (L := L) (p := p) h h1 h2 h3 h4)
  have Hir := Lib.hid (fun W B C v u (h1 : gtE.Sl W B v L) (h2 : intE.Sl W C u p) => irelab B C n v u L p W h1 h2 hpe (by omega) (by omega) n0 n1)
  have Hsr := Lib.hid (fun W B C v u (h1 : gtE.Sl W B v L) (h2 : intE.Sl W C u p) => srelab B C n v u L p W h1 h2 hpe (by omega) (by omega))
  have hrl : (rlL n L p).length ≤ 61 := by unfold rlL; split <;> simp <;> omega
  have q0 : -9223372036854775808 ≤ rlN n L p := by unfold rlN; split <;> omega
  have q1 : rlN n L p ≤ 9223372036854775807 := by unfold rlN; split <;> omega
  generalize rlB n L p = ok at *
  generalize rlL n L p = R at *
  generalize rlN n L p = q at *
  have Hse := Lib.hid (fun W B C v u (h1 : gtE.Sl W B v R) (h2 : gtE.Sl W C u R) => sequalC B C q q v u R R W h1 h2 (by omega) (by omega))
  simp only [decide_true, Bool.and_self] at Hse
  have Hca := Lib.hid (fun W B v (h : gtE.Sl W B v L) => scirc B n v L W h (by omega))
  have Hcb := Lib.hid (fun W B v (h : gtE.Sl W B v R) => icirc B q v R W h (by omega) q0 q1)
  have Hpm := Lib.hid (fun W B v (h : intE.Sl W B v p) => spmM B v p W h hpe (by omega))
  obtain ⟨hA1, hA2⟩ := ccM_amps n L
  obtain ⟨hB1, hB2⟩ := ccM_amps q R
  obtain ⟨hP1, hP2⟩ := pmM_amps p
  generalize ccM n L = MA at *
  generalize ccM q R = MB at *
  generalize pmM p = MP at *
  generalize ccB n L = ta at *
  generalize ccB q R = tb at *
  obtain ⟨hX1, hX2⟩ := mulM_amps MB MP
  obtain ⟨hY1, hY2⟩ := mulM_amps MP MA
  have Hm1 := Lib.hid (fun W P Q R S v u (h1 : DSM W P Q v MB) (h2 : DSM W R S u MP) => smulM P Q R S v u MB MP W h1 h2 hB1 (by omega) hB2 (by omega))
  have Hm2 := Lib.hid (fun W P Q R S v u (h1 : DSM W P Q v MP) (h2 : DSM W R S u MA) => smulM P Q R S v u MP MA W h1 h2 (by omega) hA1 (by omega) hA2)
  generalize mulM MB MP = MX at *
  generalize mulM MP MA = MY at *
  generalize mulMB MB MP = tx at *
  generalize mulMB MP MA = ty at *
  have htt : (ok != ok) = false := by simp
  have hte : (ok == ok) = true := by simp
  clear q0 q1 n0 n1 hci hpe
  go_wp2_with fail
  refine (Hir.out _ _ _ _ _ Hc0.out.sl Hp0.out.sl).mono ?_
  rintro e w2 ⟨⟨vd0, rfl, hd2⟩, hb2⟩
  obtain ⟨pd0, qd0, rfl, -, -⟩ := id hd2
  have Hd0 := Lib.hid hd2.upto
  have Hd0 := Lib.hid (Hd0.out.below ((Below.refl _ _).alloc (Nat.le_refl _) (.cells #[.int .i64 q, .slice pd0 R.length qd0] 26)))
  have hy2 := hb2.size
  have hb2 := hb2.alloc hb2.size (.cells #[.int .i64 q, .slice pd0 R.length qd0] 26)
  have Hc0 := Lib.hid (Hc0.out.below hb2)
  have Hp0 := Lib.hid (Hp0.out.below hb2)
  have Hb := Lib.hid (below_nx Hb.out hb2)
  have hz2 := hb2.size
  simp only [size_alloc1] at hz2
  have ha2 := size_alloc1 w2 (.cells #[.int .i64 q, .slice pd0 R.length qd0] 26)
  have HBc := Lib.hid (below_blk hb2 (lt_of_block HBc.out) HBc.out)
  have HBd := Lib.hid (heap_alloc_new w2 (.cells #[.int .i64 q, .slice pd0 R.length qd0] 26))
  clear hb2 hd2
  clear bc0 bc1 bcl
  obtain ⟨bc0, bc1⟩ := blk_cells2 HBc.out
  have bcl := lt_of_block HBc.out
  obtain ⟨bd0, bd1⟩ := blk_cells2 HBd.out
  have bdl := lt_of_block HBd.out
  go_wp2_with fail
  refine (Hsr.out _ _ _ _ _ Hc0.out.sl Hp0.out.sl).mono ?_
  rintro e w3 ⟨⟨ve0, rfl, hd3⟩, hb3⟩
  obtain ⟨pe0, qe0, rfl, -, -⟩ := id hd3
  have He0 := Lib.hid hd3.upto
  have He0 := Lib.hid (He0.out.below ((Below.refl _ _).alloc (Nat.le_refl _) (.cells #[.int .i64 q, .slice pe0 R.length qe0] 26)))
  have hy3 := hb3.size
  have hb3 := hb3.alloc hb3.size (.cells #[.int .i64 q, .slice pe0 R.length qe0] 26)
  have Hc0 := Lib.hid (Hc0.out.below hb3)
  have Hp0 := Lib.hid (Hp0.out.below hb3)
  have Hd0 := Lib.hid (Hd0.out.below hb3)
  have Hb := Lib.hid (below_nx Hb.out hb3)
  have hz3 := hb3.size
  simp only [size_alloc1] at hz3
  have ha3 := size_alloc1 w3 (.cells #[.int .i64 q, .slice pe0 R.length qe0] 26)
  have HBc := Lib.hid (below_blk hb3 (lt_of_block HBc.out) HBc.out)
  have HBd := Lib.hid (below_blk hb3 (lt_of_block HBd.out) HBd.out)
  have HBe := Lib.hid (heap_alloc_new w3 (.cells #[.int .i64 q, .slice pe0 R.length qe0] 26))
  clear hb3 hd3
  clear bc0 bc1 bcl
  obtain ⟨bc0, bc1⟩ := blk_cells2 HBc.out
  have bcl := lt_of_block HBc.out
  clear bd0 bd1 bdl
  obtain ⟨bd0, bd1⟩ := blk_cells2 HBd.out
  have bdl := lt_of_block HBd.out
  obtain ⟨be0, be1⟩ := blk_cells2 HBe.out
  have bel := lt_of_block HBe.out
  go_wp2_with fail
  refine (Hse.out _ _ _ _ _ Hd0.out.sl He0.out.sl).mono ?_
  rintro e w4 ⟨rfl, hb4⟩
  have Hc0 := Lib.hid (Hc0.out.below hb4)
  have Hp0 := Lib.hid (Hp0.out.below hb4)
  have Hd0 := Lib.hid (Hd0.out.below hb4)
  have He0 := Lib.hid (He0.out.below hb4)
  have Hb := Lib.hid (below_nx Hb.out hb4)
  have hz4 := hb4.size
  simp only [size_alloc1] at hz4
  have HBc := Lib.hid (below_blk hb4 (lt_of_block HBc.out) HBc.out)
  have HBd := Lib.hid (below_blk hb4 (lt_of_block HBd.out) HBd.out)
  have HBe := Lib.hid (below_blk hb4 (lt_of_block HBe.out) HBe.out)
  clear hb4
  clear bc0 bc1 bcl
  obtain ⟨bc0, bc1⟩ := blk_cells2 HBc.out
  have bcl := lt_of_block HBc.out
  clear bd0 bd1 bdl
  obtain ⟨bd0, bd1⟩ := blk_cells2 HBd.out
  have bdl := lt_of_block HBd.out
  clear be0 be1 bel
  obtain ⟨be0, be1⟩ := blk_cells2 HBe.out
  have bel := lt_of_block HBe.out
  cases ok with
  | false =>
    go_wp2_with fail
    refine (Hse.out _ _ _ _ _ Hd0.out.sl He0.out.sl).mono ?_
    rintro e w5 ⟨rfl, hb5⟩
    have Hc0 := Lib.hid (Hc0.out.below hb5)
    have Hp0 := Lib.hid (Hp0.out.below hb5)
    have Hd0 := Lib.hid (Hd0.out.below hb5)
    have He0 := Lib.hid (He0.out.below hb5)
    have Hb := Lib.hid (below_nx Hb.out hb5)
    have hz5 := hb5.size
    have HBc := Lib.hid (below_blk hb5 (lt_of_block HBc.out) HBc.out)
    have HBd := Lib.hid (below_blk hb5 (lt_of_block HBd.out) HBd.out)
    have HBe := Lib.hid (below_blk hb5 (lt_of_block HBe.out) HBe.out)
    clear hb5
    clear bc0 bc1 bcl
    obtain ⟨bc0, bc1⟩ := blk_cells2 HBc.out
    have bcl := lt_of_block HBc.out
    clear bd0 bd1 bdl
    obtain ⟨bd0, bd1⟩ := blk_cells2 HBd.out
    have bdl := lt_of_block HBd.out
    clear be0 be1 bel
    obtain ⟨be0, be1⟩ := blk_cells2 HBe.out
    have bel := lt_of_block HBe.out
    go_wp2_with fail
    go_ret
    exact ⟨rfl, Hb.out⟩
  | true =>
    go_wp2_with fail
    refine (Hca.out _ _ _ Hc0.out.sl).mono ?_
    rintro e w5 ⟨⟨vx, rfl, hd5⟩, hb5⟩
    have Ha0 := Lib.hid hd5
    have Hc0 := Lib.hid (Hc0.out.below hb5)
    have Hp0 := Lib.hid (Hp0.out.below hb5)
    have Hd0 := Lib.hid (Hd0.out.below hb5)
    have He0 := Lib.hid (He0.out.below hb5)
    have Hb := Lib.hid (below_nx Hb.out hb5)
    have hz5 := hb5.size
    have HBc := Lib.hid (below_blk hb5 (lt_of_block HBc.out) HBc.out)
    have HBd := Lib.hid (below_blk hb5 (lt_of_block HBd.out) HBd.out)
    have HBe := Lib.hid (below_blk hb5 (lt_of_block HBe.out) HBe.out)
    clear hb5 hd5
    clear bc0 bc1 bcl
    obtain ⟨bc0, bc1⟩ := blk_cells2 HBc.out
    have bcl := lt_of_block HBc.out
    clear bd0 bd1 bdl
    obtain ⟨bd0, bd1⟩ := blk_cells2 HBd.out
    have bdl := lt_of_block HBd.out
    clear be0 be1 bel
    obtain ⟨be0, be1⟩ := blk_cells2 HBe.out
    have bel := lt_of_block HBe.out
    go_wp2_with fail
    refine (Hcb.out _ _ _ Hd0.out.sl).mono ?_
    rintro e w6 ⟨⟨vy, rfl, hd6⟩, hb6⟩
    have Hb0 := Lib.hid hd6
    have Hc0 := Lib.hid (Hc0.out.below hb6)
    have Hp0 := Lib.hid (Hp0.out.below hb6)
    have Hd0 := Lib.hid (Hd0.out.below hb6)
    have He0 := Lib.hid (He0.out.below hb6)
    have Ha0 := Lib.hid (Ha0.out.below hb6)
    have Hb := Lib.hid (below_nx Hb.out hb6)
    have hz6 := hb6.size
    have HBc := Lib.hid (below_blk hb6 (lt_of_block HBc.out) HBc.out)
    have HBd := Lib.hid (below_blk hb6 (lt_of_block HBd.out) HBd.out)
    have HBe := Lib.hid (below_blk hb6 (lt_of_block HBe.out) HBe.out)
    clear hb6 hd6
    clear bc0 bc1 bcl
    obtain ⟨bc0, bc1⟩ := blk_cells2 HBc.out
    have bcl := lt_of_block HBc.out
    clear bd0 bd1 bdl
    obtain ⟨bd0, bd1⟩ := blk_cells2 HBd.out
    have bdl := lt_of_block HBd.out
    clear be0 be1 bel
    obtain ⟨be0, be1⟩ := blk_cells2 HBe.out
    have bel := lt_of_block HBe.out
    go_wp2_with fail
    refine (Hpm.out _ _ _ Hp0.out.sl).mono ?_
    rintro e w7 ⟨vz, rfl, hd7, hb7⟩
    have Hm0 := Lib.hid hd7
    have Hc0 := Lib.hid (Hc0.out.below hb7)
    have Hp0 := Lib.hid (Hp0.out.below hb7)
    have Hd0 := Lib.hid (Hd0.out.below hb7)
    have He0 := Lib.hid (He0.out.below hb7)
    have Ha0 := Lib.hid (Ha0.out.below hb7)
    have Hb0 := Lib.hid (Hb0.out.below hb7)
    have Hb := Lib.hid (below_nx Hb.out hb7)
    have hz7 := hb7.size
    have HBc := Lib.hid (below_blk hb7 (lt_of_block HBc.out) HBc.out)
    have HBd := Lib.hid (below_blk hb7 (lt_of_block HBd.out) HBd.out)
    have HBe := Lib.hid (below_blk hb7 (lt_of_block HBe.out) HBe.out)
    clear hb7 hd7
    clear bc0 bc1 bcl
    obtain ⟨bc0, bc1⟩ := blk_cells2 HBc.out
    have bcl := lt_of_block HBc.out
    clear bd0 bd1 bdl
    obtain ⟨bd0, bd1⟩ := blk_cells2 HBd.out
    have bdl := lt_of_block HBd.out
    clear be0 be1 bel
    obtain ⟨be0, be1⟩ := blk_cells2 HBe.out
    have bel := lt_of_block HBe.out
    go_wp2_with fail
    refine (Hm1.out _ _ _ _ _ _ _ Hb0.out Hm0.out).mono ?_
    rintro e w8 ⟨⟨vs, rfl, hd8⟩, hb8⟩
    have Hx0 := Lib.hid hd8
    have Hc0 := Lib.hid (Hc0.out.below hb8)
    have Hp0 := Lib.hid (Hp0.out.below hb8)
    have Hd0 := Lib.hid (Hd0.out.below hb8)
    have He0 := Lib.hid (He0.out.below hb8)
    have Ha0 := Lib.hid (Ha0.out.below hb8)
    have Hb0 := Lib.hid (Hb0.out.below hb8)
    have Hm0 := Lib.hid (Hm0.out.below hb8)
    have Hb := Lib.hid (below_nx Hb.out hb8)
    have hz8 := hb8.size
    have HBc := Lib.hid (below_blk hb8 (lt_of_block HBc.out) HBc.out)
    have HBd := Lib.hid (below_blk hb8 (lt_of_block HBd.out) HBd.out)
    have HBe := Lib.hid (below_blk hb8 (lt_of_block HBe.out) HBe.out)
    clear hb8 hd8
    clear bc0 bc1 bcl
    obtain ⟨bc0, bc1⟩ := blk_cells2 HBc.out
    have bcl := lt_of_block HBc.out
    clear bd0 bd1 bdl
    obtain ⟨bd0, bd1⟩ := blk_cells2 HBd.out
    have bdl := lt_of_block HBd.out
    clear be0 be1 bel
    obtain ⟨be0, be1⟩ := blk_cells2 HBe.out
    have bel := lt_of_block HBe.out
    go_wp2_with fail
    refine (Hm2.out _ _ _ _ _ _ _ Hm0.out Ha0.out).mono ?_
    rintro e w9 ⟨⟨vt, rfl, hd9⟩, hb9⟩
    have Hy0 := Lib.hid hd9
    have Hc0 := Lib.hid (Hc0.out.below hb9)
    have Hp0 := Lib.hid (Hp0.out.below hb9)
    have Hd0 := Lib.hid (Hd0.out.below hb9)
    have He0 := Lib.hid (He0.out.below hb9)
    have Ha0 := Lib.hid (Ha0.out.below hb9)
    have Hb0 := Lib.hid (Hb0.out.below hb9)
    have Hm0 := Lib.hid (Hm0.out.below hb9)
    have Hx0 := Lib.hid (Hx0.out.below hb9)
    have Hb := Lib.hid (below_nx Hb.out hb9)
    have hz9 := hb9.size
    have HBc := Lib.hid (below_blk hb9 (lt_of_block HBc.out) HBc.out)
    have HBd := Lib.hid (below_blk hb9 (lt_of_block HBd.out) HBd.out)
    have HBe := Lib.hid (below_blk hb9 (lt_of_block HBe.out) HBe.out)
    clear hb9 hd9
    clear bc0 bc1 bcl
    obtain ⟨bc0, bc1⟩ := blk_cells2 HBc.out
    have bcl := lt_of_block HBc.out
    clear bd0 bd1 bdl
    obtain ⟨bd0, bd1⟩ := blk_cells2 HBd.out
    have bdl := lt_of_block HBd.out
    clear be0 be1 bel
    obtain ⟨be0, be1⟩ := blk_cells2 HBe.out
    have bel := lt_of_block HBe.out
    by_cases hall : ta = true ∧ tb = true ∧ tx = true ∧ ty = true
    · obtain ⟨rfl, rfl, rfl, rfl⟩ := hall
      obtain rfl : MX = MY := HU.out (by trivial) (by trivial) (by trivial) (by trivial) (by trivial)
      have HeqM := Lib.hid (fun W A B C D v u (h1 : DSM W A B v MX) (h2 : DSM W C D u MX) => sequalMt A B C D v u MX MX W h1 h2 (by omega) (by omega) (by omega) (by omega))
      simp only [decide_true] at HeqM
      go_wp2_with fail
      refine (HeqM.out _ _ _ _ _ _ _ Hx0.out Hy0.out).mono ?_
      rintro e w10 ⟨rfl, hb10⟩
      have Hc0 := Lib.hid (Hc0.out.below hb10)
      have Hp0 := Lib.hid (Hp0.out.below hb10)
      have Hd0 := Lib.hid (Hd0.out.below hb10)
      have He0 := Lib.hid (He0.out.below hb10)
      have Ha0 := Lib.hid (Ha0.out.below hb10)
      have Hb0 := Lib.hid (Hb0.out.below hb10)
      have Hm0 := Lib.hid (Hm0.out.below hb10)
      have Hx0 := Lib.hid (Hx0.out.below hb10)
      have Hy0 := Lib.hid (Hy0.out.below hb10)
      have Hb := Lib.hid (below_nx Hb.out hb10)
      have hz10 := hb10.size
      have HBc := Lib.hid (below_blk hb10 (lt_of_block HBc.out) HBc.out)
      have HBd := Lib.hid (below_blk hb10 (lt_of_block HBd.out) HBd.out)
      have HBe := Lib.hid (below_blk hb10 (lt_of_block HBe.out) HBe.out)
      clear hb10
      clear bc0 bc1 bcl
      obtain ⟨bc0, bc1⟩ := blk_cells2 HBc.out
      have bcl := lt_of_block HBc.out
      clear bd0 bd1 bdl
      obtain ⟨bd0, bd1⟩ := blk_cells2 HBd.out
      have bdl := lt_of_block HBd.out
      clear be0 be1 bel
      obtain ⟨be0, be1⟩ := blk_cells2 HBe.out
      have bel := lt_of_block HBe.out
      go_wp2_with fail
      go_ret
      exact ⟨rfl, Hb.out⟩
    · have HbZ := Hb
      cases ta with
      | false =>
        go_wp2_with fail
        go_ret
        exact ⟨rfl, HbZ.out⟩
      | true =>
        cases tb with
        | false =>
          go_wp2_with fail
          go_ret
          exact ⟨rfl, HbZ.out⟩
        | true =>
          cases tx with
          | false =>
            go_wp2_with fail
            go_ret
            exact ⟨rfl, HbZ.out⟩
          | true =>
            cases ty with
            | false =>
              go_wp2_with fail
              go_ret
              exact ⟨rfl, HbZ.out⟩
            | true => exact absurd ⟨rfl, rfl, rfl, rfl⟩ hall
set_option maxRecDepth 100000 in
set_option maxHeartbeats 400000 in
theorem walk (a0 : Option Addr) (len cap : Nat) (w : World) (hm : len ≤ maxLen) (hlc : len ≤ cap) (hc : len ≤ 1048576 → CodeAt w w.heap.size a0 len) :
    Calls Tryz.prog 5 #[.slice a0 len cap] w fun e w' => e = .returned (.bool true) ∧ Below w.heap.size w w' := by
  by_cases hs : len ≤ 1048576
  · exact core a0 len cap hs hlc w (hc hs)
  · unfold maxLen at hm
    clear hc
    go_enter Tryz.func5, Tryz.ntmps5
    go_wp2_with (go_at_call 7; go_in)
    go_ret
    exact ⟨rfl, Below.refl _ _⟩
open Go.ChangeMaps (open_string shut_string)
theorem laidOut : laidOutB Tryz.prog = true := by kernel_rfl
theorem own : ownKnob Tryz.prog.godebug = none := by kernel_rfl
set_option maxRecDepth 100000 in
/-- What the walk gives, for every argument. -/
theorem contract (H : Type) (enc : TypeId × Value → H) (W : World) (base : Nat) (args : Array Value) (ds gs : List (DataW H)) (before : List MemPlace)
    (hval : ∀ (j : Nat) t v, Tryz.f5.params[j]? = some t → args[j]? = some v → Value.okWide Tryz.prog W .any base t v)
    (hW : DataW.Whole enc Tryz.prog Tryz.f5.params.toList Rows.fnMovedCircSpec.vars false W args.toList ds gs before) :
    Calls Tryz.prog 5 args W fun e W' => ∃ v, e = .returned v ∧ Rows.fnMovedCircSpec.post enc Tryz.prog Tryz.f5 false true false false W args v W' := by
  have hW' := hW
  obtain ⟨p, q, hA0, hV, rfl, hfz, hnd⟩ := hW
  have hA : DataW.TrodAll enc Tryz.prog W 0 (fun _ => true) true Tryz.f5.params.toList args.toList ds p := hA0
  rw [Tryz.params5] at hA hval
  obtain ⟨v0, vs0, d0, ds0, p0, q0, hargs, rfl, rfl, h0, r0⟩ := trodAll_cons hA
  obtain ⟨rfl, rfl, rfl⟩ := trodAll_nil r0
  obtain rfl : args = #[v0] := by cases args; simp_all
  obtain ⟨rfl, rfl⟩ := trodVars_none hV
  obtain ⟨ca, cl, cc, rfl⟩ := okWide_slice Tryz.underlying22 (hval 0 22 v0 rfl rfl)
  have k0 := h0
  have lt0 : ∀ x ∈ p0, x.block < W.heap.size := by obtain ⟨m, hm⟩ := k0; exact DataW.trod_lt m _ _ _ hm
  have ch : (cl ≤ 1048576 → CodeAt W W.heap.size ca cl) ∧ cl ≤ maxLen ∧ cl ≤ cc := by
    obtain ⟨fuel, hf⟩ := h0
    rcases open_ints Tryz.underlying22 Tryz.underlying5 (by kernel_rfl) hf with ⟨hcs, _⟩ | ⟨x, l, c, zs, hcs, _, hl, hm, hz, _, hcell, hwz⟩
    · simp [Value.cells] at hcs
      obtain ⟨rfl, rfl, rfl⟩ := hcs
      exact ⟨fun _ => ⟨by omega, fun h => absurd h (by omega)⟩, Nat.zero_le _, Nat.le_refl _⟩
    · simp [Value.cells] at hcs
      obtain ⟨rfl, rfl, rfl⟩ := hcs
      have hz2 : zs.length = cc := by simpa using hz
      exact ⟨fun hs => code_of hs (by omega) hcell hwz, by omega, hl⟩
  clear hA0
  simp only [List.append_nil] at hW'
  refine (walk ca cl cc W ch.2.1 ch.2.2 ch.1).mono fun e W' ⟨he, hg⟩ => ?_
  subst he
  exact ⟨_, rfl, _, _, _, [], _, [], hW', trodAll_mk1 (shut_bool Tryz.underlying4 _), (trodAll_cons_mk (Below.trod laidOut (by kernel_rfl) (of_decide_eq_true (by kernel_rfl)) k0 hg lt0) trodAll_mk0), rfl, hg.frame _, fun h => by cases h⟩
set_option maxRecDepth 100000 in
theorem lifted (os : Os) (started : os.Started) (H : Type) (enc : TypeId × Value → H) :
    ReturnsInHanded {} Tryz.checked os 5 .any (Rows.fnMovedCircSpec.pre6 enc Tryz.prog Tryz.f5 Rows.fnMovedCircRow.domain false) (Rows.fnMovedCircSpec.post enc Tryz.prog Tryz.f5 false true false false) := by
  refine returnsInHanded_of_change (C := Tryz.checked) own started (by kernel_rfl) Tryz.func5
    (ChangeSpec.witness6 (enc := enc) (C := Tryz.checked) false ⟨#[], #[.slice none 0 0], []⟩ 8 (by kernel_rfl) (by kernel_rfl) (by kernel_rfl) (by kernel_rfl)) ?_
  intro W base args ds gs before hval hW _ _
  exact contract H enc W base args ds gs before hval hW
theorem closedFacts : joinedFacts Tryz.pinned.checked.prog 5 Tryz.f5 Rows.fnMovedCircSpec Rows.fnMovedCircRow = true := by
  unfold joinedFacts
  rw [init_may, init_facts.2.1, init_facts.2.2]
  kernel_rfl
theorem said : Rows.FnMovedCircSaid :=
  OpenClaim.holds_of_wide 5 Tryz.f5 rfl rfl rfl rfl rfl rfl rfl ⟨rfl, rfl, rfl, rfl, rfl⟩ rfl rfl rfl rfl rfl (by kernel_rfl) Tryz.func5 closedFacts
    (of_decide_eq_true (by kernel_rfl)) (by unfold Func.isWrapper; first | (rw [if_pos (by decide +kernel)]; kernel_rfl) | (rw [if_neg (by decide +kernel)]; exact ⟨rfl, rfl⟩))
    (fun os started H enc _ => lifted os started H enc)
end Go.Proofs.YtmpafidkpangeaaGreat.fnMovedCirc
