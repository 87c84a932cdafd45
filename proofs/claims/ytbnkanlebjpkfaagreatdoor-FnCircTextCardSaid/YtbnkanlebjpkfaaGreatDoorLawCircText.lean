/- A circuit's text reads back, and no other string is accepted: the law FnCircText, at every code. No condition. -/
import Derived.Test.YtbnkanlebjpkfaaGreatDoorTcL
import Derived.Test.YtbnkanlebjpkfaaGreatDoorB21
import Derived.Test.YtbnkanlebjpkfaaGreatDoorB17
import Derived.Test.YtbnkanlebjpkfaaGreatDoorB20
import Derived.Test.YtbnkanlebjpkfaaGreatDoorTcR
import Derived.Test.YtbnkanlebjpkfaaGreatDoorB19
import Derived.Test.YtbnkanlebjpkfaaGreatDoorTie
import Derived.Test.YtbnkanlebjpkfaaGreatDoorCards
import Derived.Lib.SmallJoins
import Derived.SevenTiedAt
import Derived.WalkKit
import Derived.ProofKit
import Derived.OpenShut
import Derived.Deep.DeepHandedRow
import Derived.Lib.LaidTab
import Derived.LaidMore
import Derived.LaidHandle
import Derived.Lay
import Derived.Stop.LaidErr
import Derived.OpenVars
namespace Go.Proofs.YtbnkanlebjpkfaaGreatDoor.fnCircText
open Go.ChangeShapes Go.WideShapes Go.ChangeAt Go.RowKit Go.Lib
attribute [local irreducible] World.cell?
set_option maxRecDepth 100000 in
set_option maxHeartbeats 12800000 in
theorem core (a0 : Option Addr) (len cap : Nat) (hs : len ≤ 1048576) (_ : len ≤ cap) (w : World) (hcode : CodeAt w w.heap.size a0 len) (hL : LW w) :
    Calls Tryz.prog 3 #[.slice a0 len cap] w fun e w' => e = .returned (.bool true) ∧ Below w.heap.size w w' := by
  have Hc := Lib.hid hcode
  have Hb := Lib.hid (Below.refl w.heap.size w)
  have HL := Lib.hid hL
  clear hL
  clear hcode
  go_enter Tryz.func3, Tryz.ntmps3
  go_wp2_with (go_at_call 4; go_in)
  refine (drawFmtC a0 len cap _ Hc.out).mono ?_
  rintro e w1 ⟨⟨n, vc0, L, rfl, hci, hd1⟩, hb1⟩
  obtain ⟨pc0, qc0, rfl, -, -⟩ := id hd1
  have Hc0 := Lib.hid hd1.upto
  have Hc0 := Lib.hid (Hc0.out.below ((Below.refl _ _).alloc (Nat.le_refl _) (.cells #[.int .i64 n, .slice pc0 L.length qc0] 26)))
  have hy1 := hb1.size
  have hb1 := hb1.alloc hb1.size (.cells #[.int .i64 n, .slice pc0 L.length qc0] 26)
  have Hb := Lib.hid (below_nx Hb.out hb1)
  have hz1 := hb1.size
  simp only [size_alloc1] at hz1
  have ha1 := size_alloc1 w1 (.cells #[.int .i64 n, .slice pc0 L.length qc0] 26)
  have HBc := Lib.hid (heap_alloc_new w1 (.cells #[.int .i64 n, .slice pc0 L.length qc0] 26))
  clear hb1 hd1
  obtain ⟨bc0, bc1⟩ := blk_cells2 HBc.out
  have bcl := lt_of_block HBc.out
  have hln : L.length ≤ 61 := hci.2.1
  have n0 : -9223372036854775808 ≤ n := by have := hci.1; omega
  have n1 : n ≤ 9223372036854775807 := by have := hci.1; omega
  have hts := cTxt_size n L
  have Hf := Lib.hid (fun W (h0 : LW W) B v (h : gtE.Sl W B v L) => ifmtCw B n v L W h0 h (by omega) n0 n1)
  have Hsf := Lib.hid (fun W B v (h : gtE.Sl W B v L) => sfmtC B n v L W h (by omega))
  have Hsv := Lib.hid (fun W B v (h : gtE.Sl W B v L) => svalidC B n v L W h (by omega))
  have Hp := Lib.hid (fun W (h0 : LW W) => iparCw (cTxt n L) W h0 (by omega))
  have HU := Lib.hid (fun (h : ciB n L = true) => (show n = (pcV (cTxt n L)).1 ∧ L = (pcV (cTxt n L)).2 by rw [(pc_fmt n L).2 h]; exact ⟨rfl, rfl⟩))
  rw [(pc_fmt n L).1] at Hp
  have hrl := pcV_len (cTxt n L)
  have Hse := Lib.hid (fun W A B u v (h1 : gtE.Sl W A u L) (h2 : gtE.Sl W B v L) => sequalC A B n n u v L L W h1 h2 (by omega) (by omega))
  have Hie := Lib.hid (fun W A B u v (h1 : gtE.Sl W A u L) (h2 : gtE.Sl W B v L) => iequalC A B n n u v L L W h1 h2 (by omega) (by omega) n0 n1)
  simp only [decide_true, Bool.and_self] at Hse Hie
  generalize (pcV (cTxt n L)).2 = R at *
  generalize (pcV (cTxt n L)).1 = m at *
  generalize cTxt n L = S at *
  generalize ciB n L = ok at *
  clear hts n0 n1 hci
  go_wp2_with fail
  refine (Hf.out _ (HL.out.below Hb.out) _ _ Hc0.out.sl).mono ?_
  rintro e w2 ⟨rfl, hb2⟩
  have Hc0 := Lib.hid (Hc0.out.below hb2)
  have Hb := Lib.hid (below_nx Hb.out hb2)
  have hz2 := hb2.size
  simp only [size_alloc1] at hz2
  have HBc := Lib.hid (below_blk hb2 (lt_of_block HBc.out) HBc.out)
  clear hb2
  clear bc0 bc1 bcl
  obtain ⟨bc0, bc1⟩ := blk_cells2 HBc.out
  have bcl := lt_of_block HBc.out
  go_wp2_with fail
  refine (Hp.out _ (HL.out.below Hb.out)).mono ?_
  rintro e w3 ⟨⟨vd0, rfl, hd3⟩, hb3⟩
  obtain ⟨pd0, qd0, rfl, -, -⟩ := id hd3
  have Hd0 := Lib.hid hd3.upto
  have Hd0 := Lib.hid (Hd0.out.below ((Below.refl _ _).alloc (Nat.le_refl _) (.cells #[.int .i64 m, .slice pd0 R.length qd0] 26)))
  have hy3 := hb3.size
  have hb3 := hb3.alloc hb3.size (.cells #[.int .i64 m, .slice pd0 R.length qd0] 26)
  have Hc0 := Lib.hid (Hc0.out.below hb3)
  have Hb := Lib.hid (below_nx Hb.out hb3)
  have hz3 := hb3.size
  simp only [size_alloc1] at hz3
  have ha3 := size_alloc1 w3 (.cells #[.int .i64 m, .slice pd0 R.length qd0] 26)
  have HBc := Lib.hid (below_blk hb3 (lt_of_block HBc.out) HBc.out)
  have HBd := Lib.hid (heap_alloc_new w3 (.cells #[.int .i64 m, .slice pd0 R.length qd0] 26))
  clear hb3 hd3
  clear bc0 bc1 bcl
  obtain ⟨bc0, bc1⟩ := blk_cells2 HBc.out
  have bcl := lt_of_block HBc.out
  obtain ⟨bd0, bd1⟩ := blk_cells2 HBd.out
  have bdl := lt_of_block HBd.out
  go_wp2_with fail
  refine (drawParC a0 len cap _ ((Hc.out.below Hb.out).mono Hb.out.size)).mono ?_
  rintro e w4 ⟨⟨t, rfl, ht⟩, hb4⟩
  have Hc0 := Lib.hid (Hc0.out.below hb4)
  have Hd0 := Lib.hid (Hd0.out.below hb4)
  have Hb := Lib.hid (below_nx Hb.out hb4)
  have hz4 := hb4.size
  simp only [size_alloc1] at hz4
  have HBc := Lib.hid (below_blk hb4 (lt_of_block HBc.out) HBc.out)
  have HBd := Lib.hid (below_blk hb4 (lt_of_block HBd.out) HBd.out)
  clear hb4
  clear bc0 bc1 bcl
  obtain ⟨bc0, bc1⟩ := blk_cells2 HBc.out
  have bcl := lt_of_block HBc.out
  clear bd0 bd1 bdl
  obtain ⟨bd0, bd1⟩ := blk_cells2 HBd.out
  have bdl := lt_of_block HBd.out
  have Hpt := Lib.hid (fun W (h0 : LW W) => iparCw t W h0 ht)
  have Hst := Lib.hid (fun W => sparseC t W ht)
  have hql := pcV_len t
  obtain ⟨q0, q1⟩ := pcV_n t
  have Hft := Lib.hid (fun W (h0 : LW W) B v (h : gtE.Sl W B v (pcV t).2) => ifmtCw B (pcV t).1 v (pcV t).2 W h0 h (by omega) (by omega) (by omega))
  have Hbk := Lib.hid (@pc_back t)
  clear ht
  generalize cTxt (pcV t).1 (pcV t).2 = U at *
  generalize (pcV t).2 = Q at *
  generalize (pcV t).1 = q at *
  generalize pcB t = rt at *
  clear q0 q1
  go_wp2_with fail
  refine (Hpt.out _ (HL.out.below Hb.out)).mono ?_
  rintro e w5 ⟨⟨ve0, rfl, hd5⟩, hb5⟩
  obtain ⟨pe0, qe0, rfl, -, -⟩ := id hd5
  have He0 := Lib.hid hd5.upto
  have He0 := Lib.hid (He0.out.below ((Below.refl _ _).alloc (Nat.le_refl _) (.cells #[.int .i64 q, .slice pe0 Q.length qe0] 26)))
  have hy5 := hb5.size
  have hb5 := hb5.alloc hb5.size (.cells #[.int .i64 q, .slice pe0 Q.length qe0] 26)
  have Hc0 := Lib.hid (Hc0.out.below hb5)
  have Hd0 := Lib.hid (Hd0.out.below hb5)
  have Hb := Lib.hid (below_nx Hb.out hb5)
  have hz5 := hb5.size
  simp only [size_alloc1] at hz5
  have ha5 := size_alloc1 w5 (.cells #[.int .i64 q, .slice pe0 Q.length qe0] 26)
  have HBc := Lib.hid (below_blk hb5 (lt_of_block HBc.out) HBc.out)
  have HBd := Lib.hid (below_blk hb5 (lt_of_block HBd.out) HBd.out)
  have HBe := Lib.hid (heap_alloc_new w5 (.cells #[.int .i64 q, .slice pe0 Q.length qe0] 26))
  clear hb5 hd5
  clear bc0 bc1 bcl
  obtain ⟨bc0, bc1⟩ := blk_cells2 HBc.out
  have bcl := lt_of_block HBc.out
  clear bd0 bd1 bdl
  obtain ⟨bd0, bd1⟩ := blk_cells2 HBd.out
  have bdl := lt_of_block HBd.out
  obtain ⟨be0, be1⟩ := blk_cells2 HBe.out
  have bel := lt_of_block HBe.out
  go_wp2_with fail
  refine (Hst.out _).mono ?_
  rintro e w6 ⟨⟨vf0, rfl, hd6⟩, hb6⟩
  obtain ⟨pf0, qf0, rfl, -, -⟩ := id hd6
  have Hf0 := Lib.hid hd6.upto
  have Hf0 := Lib.hid (Hf0.out.below ((Below.refl _ _).alloc (Nat.le_refl _) (.cells #[.int .i64 q, .slice pf0 Q.length qf0] 26)))
  have hy6 := hb6.size
  have hb6 := hb6.alloc hb6.size (.cells #[.int .i64 q, .slice pf0 Q.length qf0] 26)
  have Hc0 := Lib.hid (Hc0.out.below hb6)
  have Hd0 := Lib.hid (Hd0.out.below hb6)
  have He0 := Lib.hid (He0.out.below hb6)
  have Hb := Lib.hid (below_nx Hb.out hb6)
  have hz6 := hb6.size
  simp only [size_alloc1] at hz6
  have ha6 := size_alloc1 w6 (.cells #[.int .i64 q, .slice pf0 Q.length qf0] 26)
  have HBc := Lib.hid (below_blk hb6 (lt_of_block HBc.out) HBc.out)
  have HBd := Lib.hid (below_blk hb6 (lt_of_block HBd.out) HBd.out)
  have HBe := Lib.hid (below_blk hb6 (lt_of_block HBe.out) HBe.out)
  have HBf := Lib.hid (heap_alloc_new w6 (.cells #[.int .i64 q, .slice pf0 Q.length qf0] 26))
  clear hb6 hd6
  clear bc0 bc1 bcl
  obtain ⟨bc0, bc1⟩ := blk_cells2 HBc.out
  have bcl := lt_of_block HBc.out
  clear bd0 bd1 bdl
  obtain ⟨bd0, bd1⟩ := blk_cells2 HBd.out
  have bdl := lt_of_block HBd.out
  clear be0 be1 bel
  obtain ⟨be0, be1⟩ := blk_cells2 HBe.out
  have bel := lt_of_block HBe.out
  obtain ⟨bf0, bf1⟩ := blk_cells2 HBf.out
  have bfl := lt_of_block HBf.out
  have HcX := Hc0
  have HdX := Hd0
  have HeX := He0
  have HbX := Hb
  have HBcX := HBc
  have HBdX := HBd
  have HBeX := HBe
  have HBfX := HBf
  cases ok with
  | false =>
    cases rt with
    | false =>
      go_wp2_with fail
      refine (Hsf.out _ _ _ Hc0.out.sl).mono ?_
      rintro e w7 ⟨rfl, hb7⟩
      have Hc0 := Lib.hid (Hc0.out.below hb7)
      have Hd0 := Lib.hid (Hd0.out.below hb7)
      have He0 := Lib.hid (He0.out.below hb7)
      have Hb := Lib.hid (below_nx Hb.out hb7)
      have hz7 := hb7.size
      simp only [size_alloc1] at hz7
      have HBc := Lib.hid (below_blk hb7 (lt_of_block HBc.out) HBc.out)
      have HBd := Lib.hid (below_blk hb7 (lt_of_block HBd.out) HBd.out)
      have HBe := Lib.hid (below_blk hb7 (lt_of_block HBe.out) HBe.out)
      have HBf := Lib.hid (below_blk hb7 (lt_of_block HBf.out) HBf.out)
      clear hb7
      clear bc0 bc1 bcl
      obtain ⟨bc0, bc1⟩ := blk_cells2 HBc.out
      have bcl := lt_of_block HBc.out
      clear bd0 bd1 bdl
      obtain ⟨bd0, bd1⟩ := blk_cells2 HBd.out
      have bdl := lt_of_block HBd.out
      clear be0 be1 bel
      obtain ⟨be0, be1⟩ := blk_cells2 HBe.out
      have bel := lt_of_block HBe.out
      clear bf0 bf1 bfl
      obtain ⟨bf0, bf1⟩ := blk_cells2 HBf.out
      have bfl := lt_of_block HBf.out
      go_wp2_with fail
      refine (Hsv.out _ _ _ Hc0.out.sl).mono ?_
      rintro e w8 ⟨rfl, hb8⟩
      have Hc0 := Lib.hid (Hc0.out.below hb8)
      have Hd0 := Lib.hid (Hd0.out.below hb8)
      have He0 := Lib.hid (He0.out.below hb8)
      have Hb := Lib.hid (below_nx Hb.out hb8)
      have hz8 := hb8.size
      have HBc := Lib.hid (below_blk hb8 (lt_of_block HBc.out) HBc.out)
      have HBd := Lib.hid (below_blk hb8 (lt_of_block HBd.out) HBd.out)
      have HBe := Lib.hid (below_blk hb8 (lt_of_block HBe.out) HBe.out)
      have HBf := Lib.hid (below_blk hb8 (lt_of_block HBf.out) HBf.out)
      clear hb8
      clear bc0 bc1 bcl
      obtain ⟨bc0, bc1⟩ := blk_cells2 HBc.out
      have bcl := lt_of_block HBc.out
      clear bd0 bd1 bdl
      obtain ⟨bd0, bd1⟩ := blk_cells2 HBd.out
      have bdl := lt_of_block HBd.out
      clear be0 be1 bel
      obtain ⟨be0, be1⟩ := blk_cells2 HBe.out
      have bel := lt_of_block HBe.out
      clear bf0 bf1 bfl
      obtain ⟨bf0, bf1⟩ := blk_cells2 HBf.out
      have bfl := lt_of_block HBf.out
      go_wp2_with fail
      go_ret
      exact ⟨rfl, Hb.out⟩
    | true =>
      obtain rfl := Hbk.out (by trivial)
      have Hc0 := HcX
      have Hd0 := HdX
      have He0 := HeX
      have Hb := HbX
      have HBc := HBcX
      have HBd := HBdX
      have HBe := HBeX
      have HBf := HBfX
      go_wp2_with fail
      refine (Hsf.out _ _ _ Hc0.out.sl).mono ?_
      rintro e w7 ⟨rfl, hb7⟩
      have Hc0 := Lib.hid (Hc0.out.below hb7)
      have Hd0 := Lib.hid (Hd0.out.below hb7)
      have He0 := Lib.hid (He0.out.below hb7)
      have Hb := Lib.hid (below_nx Hb.out hb7)
      have hz7 := hb7.size
      simp only [size_alloc1] at hz7
      have HBc := Lib.hid (below_blk hb7 (lt_of_block HBc.out) HBc.out)
      have HBd := Lib.hid (below_blk hb7 (lt_of_block HBd.out) HBd.out)
      have HBe := Lib.hid (below_blk hb7 (lt_of_block HBe.out) HBe.out)
      have HBf := Lib.hid (below_blk hb7 (lt_of_block HBf.out) HBf.out)
      clear hb7
      clear bc0 bc1 bcl
      obtain ⟨bc0, bc1⟩ := blk_cells2 HBc.out
      have bcl := lt_of_block HBc.out
      clear bd0 bd1 bdl
      obtain ⟨bd0, bd1⟩ := blk_cells2 HBd.out
      have bdl := lt_of_block HBd.out
      clear be0 be1 bel
      obtain ⟨be0, be1⟩ := blk_cells2 HBe.out
      have bel := lt_of_block HBe.out
      clear bf0 bf1 bfl
      obtain ⟨bf0, bf1⟩ := blk_cells2 HBf.out
      have bfl := lt_of_block HBf.out
      go_wp2_with fail
      refine (Hsv.out _ _ _ Hc0.out.sl).mono ?_
      rintro e w8 ⟨rfl, hb8⟩
      have Hc0 := Lib.hid (Hc0.out.below hb8)
      have Hd0 := Lib.hid (Hd0.out.below hb8)
      have He0 := Lib.hid (He0.out.below hb8)
      have Hb := Lib.hid (below_nx Hb.out hb8)
      have hz8 := hb8.size
      have HBc := Lib.hid (below_blk hb8 (lt_of_block HBc.out) HBc.out)
      have HBd := Lib.hid (below_blk hb8 (lt_of_block HBd.out) HBd.out)
      have HBe := Lib.hid (below_blk hb8 (lt_of_block HBe.out) HBe.out)
      have HBf := Lib.hid (below_blk hb8 (lt_of_block HBf.out) HBf.out)
      clear hb8
      clear bc0 bc1 bcl
      obtain ⟨bc0, bc1⟩ := blk_cells2 HBc.out
      have bcl := lt_of_block HBc.out
      clear bd0 bd1 bdl
      obtain ⟨bd0, bd1⟩ := blk_cells2 HBd.out
      have bdl := lt_of_block HBd.out
      clear be0 be1 bel
      obtain ⟨be0, be1⟩ := blk_cells2 HBe.out
      have bel := lt_of_block HBe.out
      clear bf0 bf1 bfl
      obtain ⟨bf0, bf1⟩ := blk_cells2 HBf.out
      have bfl := lt_of_block HBf.out
      go_wp2_with fail
      refine (Hft.out _ (HL.out.below Hb.out) _ _ He0.out.sl).mono ?_
      rintro e w9 ⟨rfl, hb9⟩
      have Hc0 := Lib.hid (Hc0.out.below hb9)
      have Hd0 := Lib.hid (Hd0.out.below hb9)
      have He0 := Lib.hid (He0.out.below hb9)
      have Hb := Lib.hid (below_nx Hb.out hb9)
      have hz9 := hb9.size
      have HBc := Lib.hid (below_blk hb9 (lt_of_block HBc.out) HBc.out)
      have HBd := Lib.hid (below_blk hb9 (lt_of_block HBd.out) HBd.out)
      have HBe := Lib.hid (below_blk hb9 (lt_of_block HBe.out) HBe.out)
      have HBf := Lib.hid (below_blk hb9 (lt_of_block HBf.out) HBf.out)
      clear hb9
      clear bc0 bc1 bcl
      obtain ⟨bc0, bc1⟩ := blk_cells2 HBc.out
      have bcl := lt_of_block HBc.out
      clear bd0 bd1 bdl
      obtain ⟨bd0, bd1⟩ := blk_cells2 HBd.out
      have bdl := lt_of_block HBd.out
      clear be0 be1 bel
      obtain ⟨be0, be1⟩ := blk_cells2 HBe.out
      have bel := lt_of_block HBe.out
      clear bf0 bf1 bfl
      obtain ⟨bf0, bf1⟩ := blk_cells2 HBf.out
      have bfl := lt_of_block HBf.out
      go_wp2_with fail
      go_ret
      exact ⟨rfl, Hb.out⟩
  | true =>
    obtain ⟨rfl, rfl⟩ := HU.out (by trivial)
    have Hc0 := HcX
    have Hd0 := HdX
    have He0 := HeX
    have Hb := HbX
    have HBc := HBcX
    have HBd := HBdX
    have HBe := HBeX
    have HBf := HBfX
    cases rt with
    | false =>
      go_wp2_with fail
      refine (Hsf.out _ _ _ Hc0.out.sl).mono ?_
      rintro e w7 ⟨rfl, hb7⟩
      have Hc0 := Lib.hid (Hc0.out.below hb7)
      have Hd0 := Lib.hid (Hd0.out.below hb7)
      have He0 := Lib.hid (He0.out.below hb7)
      have Hb := Lib.hid (below_nx Hb.out hb7)
      have hz7 := hb7.size
      simp only [size_alloc1] at hz7
      have HBc := Lib.hid (below_blk hb7 (lt_of_block HBc.out) HBc.out)
      have HBd := Lib.hid (below_blk hb7 (lt_of_block HBd.out) HBd.out)
      have HBe := Lib.hid (below_blk hb7 (lt_of_block HBe.out) HBe.out)
      have HBf := Lib.hid (below_blk hb7 (lt_of_block HBf.out) HBf.out)
      clear hb7
      clear bc0 bc1 bcl
      obtain ⟨bc0, bc1⟩ := blk_cells2 HBc.out
      have bcl := lt_of_block HBc.out
      clear bd0 bd1 bdl
      obtain ⟨bd0, bd1⟩ := blk_cells2 HBd.out
      have bdl := lt_of_block HBd.out
      clear be0 be1 bel
      obtain ⟨be0, be1⟩ := blk_cells2 HBe.out
      have bel := lt_of_block HBe.out
      clear bf0 bf1 bfl
      obtain ⟨bf0, bf1⟩ := blk_cells2 HBf.out
      have bfl := lt_of_block HBf.out
      go_wp2_with fail
      refine (Hsv.out _ _ _ Hc0.out.sl).mono ?_
      rintro e w8 ⟨rfl, hb8⟩
      have Hc0 := Lib.hid (Hc0.out.below hb8)
      have Hd0 := Lib.hid (Hd0.out.below hb8)
      have He0 := Lib.hid (He0.out.below hb8)
      have Hb := Lib.hid (below_nx Hb.out hb8)
      have hz8 := hb8.size
      have HBc := Lib.hid (below_blk hb8 (lt_of_block HBc.out) HBc.out)
      have HBd := Lib.hid (below_blk hb8 (lt_of_block HBd.out) HBd.out)
      have HBe := Lib.hid (below_blk hb8 (lt_of_block HBe.out) HBe.out)
      have HBf := Lib.hid (below_blk hb8 (lt_of_block HBf.out) HBf.out)
      clear hb8
      clear bc0 bc1 bcl
      obtain ⟨bc0, bc1⟩ := blk_cells2 HBc.out
      have bcl := lt_of_block HBc.out
      clear bd0 bd1 bdl
      obtain ⟨bd0, bd1⟩ := blk_cells2 HBd.out
      have bdl := lt_of_block HBd.out
      clear be0 be1 bel
      obtain ⟨be0, be1⟩ := blk_cells2 HBe.out
      have bel := lt_of_block HBe.out
      clear bf0 bf1 bfl
      obtain ⟨bf0, bf1⟩ := blk_cells2 HBf.out
      have bfl := lt_of_block HBf.out
      go_wp2_with fail
      refine (Hse.out _ _ _ _ _ Hc0.out.sl Hd0.out.sl).mono ?_
      rintro e w9 ⟨rfl, hb9⟩
      have Hc0 := Lib.hid (Hc0.out.below hb9)
      have Hd0 := Lib.hid (Hd0.out.below hb9)
      have He0 := Lib.hid (He0.out.below hb9)
      have Hb := Lib.hid (below_nx Hb.out hb9)
      have hz9 := hb9.size
      have HBc := Lib.hid (below_blk hb9 (lt_of_block HBc.out) HBc.out)
      have HBd := Lib.hid (below_blk hb9 (lt_of_block HBd.out) HBd.out)
      have HBe := Lib.hid (below_blk hb9 (lt_of_block HBe.out) HBe.out)
      have HBf := Lib.hid (below_blk hb9 (lt_of_block HBf.out) HBf.out)
      clear hb9
      clear bc0 bc1 bcl
      obtain ⟨bc0, bc1⟩ := blk_cells2 HBc.out
      have bcl := lt_of_block HBc.out
      clear bd0 bd1 bdl
      obtain ⟨bd0, bd1⟩ := blk_cells2 HBd.out
      have bdl := lt_of_block HBd.out
      clear be0 be1 bel
      obtain ⟨be0, be1⟩ := blk_cells2 HBe.out
      have bel := lt_of_block HBe.out
      clear bf0 bf1 bfl
      obtain ⟨bf0, bf1⟩ := blk_cells2 HBf.out
      have bfl := lt_of_block HBf.out
      go_wp2_with fail
      refine (Hie.out _ _ _ _ _ Hc0.out.sl Hd0.out.sl).mono ?_
      rintro e w10 ⟨rfl, hb10⟩
      have Hc0 := Lib.hid (Hc0.out.below hb10)
      have Hd0 := Lib.hid (Hd0.out.below hb10)
      have He0 := Lib.hid (He0.out.below hb10)
      have Hb := Lib.hid (below_nx Hb.out hb10)
      have hz10 := hb10.size
      have HBc := Lib.hid (below_blk hb10 (lt_of_block HBc.out) HBc.out)
      have HBd := Lib.hid (below_blk hb10 (lt_of_block HBd.out) HBd.out)
      have HBe := Lib.hid (below_blk hb10 (lt_of_block HBe.out) HBe.out)
      have HBf := Lib.hid (below_blk hb10 (lt_of_block HBf.out) HBf.out)
      clear hb10
      clear bc0 bc1 bcl
      obtain ⟨bc0, bc1⟩ := blk_cells2 HBc.out
      have bcl := lt_of_block HBc.out
      clear bd0 bd1 bdl
      obtain ⟨bd0, bd1⟩ := blk_cells2 HBd.out
      have bdl := lt_of_block HBd.out
      clear be0 be1 bel
      obtain ⟨be0, be1⟩ := blk_cells2 HBe.out
      have bel := lt_of_block HBe.out
      clear bf0 bf1 bfl
      obtain ⟨bf0, bf1⟩ := blk_cells2 HBf.out
      have bfl := lt_of_block HBf.out
      go_wp2_with fail
      go_ret
      exact ⟨rfl, Hb.out⟩
    | true =>
      obtain rfl := Hbk.out (by trivial)
      have Hc0 := HcX
      have Hd0 := HdX
      have He0 := HeX
      have Hb := HbX
      have HBc := HBcX
      have HBd := HBdX
      have HBe := HBeX
      have HBf := HBfX
      go_wp2_with fail
      refine (Hsf.out _ _ _ Hc0.out.sl).mono ?_
      rintro e w7 ⟨rfl, hb7⟩
      have Hc0 := Lib.hid (Hc0.out.below hb7)
      have Hd0 := Lib.hid (Hd0.out.below hb7)
      have He0 := Lib.hid (He0.out.below hb7)
      have Hb := Lib.hid (below_nx Hb.out hb7)
      have hz7 := hb7.size
      simp only [size_alloc1] at hz7
      have HBc := Lib.hid (below_blk hb7 (lt_of_block HBc.out) HBc.out)
      have HBd := Lib.hid (below_blk hb7 (lt_of_block HBd.out) HBd.out)
      have HBe := Lib.hid (below_blk hb7 (lt_of_block HBe.out) HBe.out)
      have HBf := Lib.hid (below_blk hb7 (lt_of_block HBf.out) HBf.out)
      clear hb7
      clear bc0 bc1 bcl
      obtain ⟨bc0, bc1⟩ := blk_cells2 HBc.out
      have bcl := lt_of_block HBc.out
      clear bd0 bd1 bdl
      obtain ⟨bd0, bd1⟩ := blk_cells2 HBd.out
      have bdl := lt_of_block HBd.out
      clear be0 be1 bel
      obtain ⟨be0, be1⟩ := blk_cells2 HBe.out
      have bel := lt_of_block HBe.out
      clear bf0 bf1 bfl
      obtain ⟨bf0, bf1⟩ := blk_cells2 HBf.out
      have bfl := lt_of_block HBf.out
      go_wp2_with fail
      refine (Hsv.out _ _ _ Hc0.out.sl).mono ?_
      rintro e w8 ⟨rfl, hb8⟩
      have Hc0 := Lib.hid (Hc0.out.below hb8)
      have Hd0 := Lib.hid (Hd0.out.below hb8)
      have He0 := Lib.hid (He0.out.below hb8)
      have Hb := Lib.hid (below_nx Hb.out hb8)
      have hz8 := hb8.size
      have HBc := Lib.hid (below_blk hb8 (lt_of_block HBc.out) HBc.out)
      have HBd := Lib.hid (below_blk hb8 (lt_of_block HBd.out) HBd.out)
      have HBe := Lib.hid (below_blk hb8 (lt_of_block HBe.out) HBe.out)
      have HBf := Lib.hid (below_blk hb8 (lt_of_block HBf.out) HBf.out)
      clear hb8
      clear bc0 bc1 bcl
      obtain ⟨bc0, bc1⟩ := blk_cells2 HBc.out
      have bcl := lt_of_block HBc.out
      clear bd0 bd1 bdl
      obtain ⟨bd0, bd1⟩ := blk_cells2 HBd.out
      have bdl := lt_of_block HBd.out
      clear be0 be1 bel
      obtain ⟨be0, be1⟩ := blk_cells2 HBe.out
      have bel := lt_of_block HBe.out
      clear bf0 bf1 bfl
      obtain ⟨bf0, bf1⟩ := blk_cells2 HBf.out
      have bfl := lt_of_block HBf.out
      go_wp2_with fail
      refine (Hse.out _ _ _ _ _ Hc0.out.sl Hd0.out.sl).mono ?_
      rintro e w9 ⟨rfl, hb9⟩
      have Hc0 := Lib.hid (Hc0.out.below hb9)
      have Hd0 := Lib.hid (Hd0.out.below hb9)
      have He0 := Lib.hid (He0.out.below hb9)
      have Hb := Lib.hid (below_nx Hb.out hb9)
      have hz9 := hb9.size
      have HBc := Lib.hid (below_blk hb9 (lt_of_block HBc.out) HBc.out)
      have HBd := Lib.hid (below_blk hb9 (lt_of_block HBd.out) HBd.out)
      have HBe := Lib.hid (below_blk hb9 (lt_of_block HBe.out) HBe.out)
      have HBf := Lib.hid (below_blk hb9 (lt_of_block HBf.out) HBf.out)
      clear hb9
      clear bc0 bc1 bcl
      obtain ⟨bc0, bc1⟩ := blk_cells2 HBc.out
      have bcl := lt_of_block HBc.out
      clear bd0 bd1 bdl
      obtain ⟨bd0, bd1⟩ := blk_cells2 HBd.out
      have bdl := lt_of_block HBd.out
      clear be0 be1 bel
      obtain ⟨be0, be1⟩ := blk_cells2 HBe.out
      have bel := lt_of_block HBe.out
      clear bf0 bf1 bfl
      obtain ⟨bf0, bf1⟩ := blk_cells2 HBf.out
      have bfl := lt_of_block HBf.out
      go_wp2_with fail
      refine (Hie.out _ _ _ _ _ Hc0.out.sl Hd0.out.sl).mono ?_
      rintro e w10 ⟨rfl, hb10⟩
      have Hc0 := Lib.hid (Hc0.out.below hb10)
      have Hd0 := Lib.hid (Hd0.out.below hb10)
      have He0 := Lib.hid (He0.out.below hb10)
      have Hb := Lib.hid (below_nx Hb.out hb10)
      have hz10 := hb10.size
      have HBc := Lib.hid (below_blk hb10 (lt_of_block HBc.out) HBc.out)
      have HBd := Lib.hid (below_blk hb10 (lt_of_block HBd.out) HBd.out)
      have HBe := Lib.hid (below_blk hb10 (lt_of_block HBe.out) HBe.out)
      have HBf := Lib.hid (below_blk hb10 (lt_of_block HBf.out) HBf.out)
      clear hb10
      clear bc0 bc1 bcl
      obtain ⟨bc0, bc1⟩ := blk_cells2 HBc.out
      have bcl := lt_of_block HBc.out
      clear bd0 bd1 bdl
      obtain ⟨bd0, bd1⟩ := blk_cells2 HBd.out
      have bdl := lt_of_block HBd.out
      clear be0 be1 bel
      obtain ⟨be0, be1⟩ := blk_cells2 HBe.out
      have bel := lt_of_block HBe.out
      clear bf0 bf1 bfl
      obtain ⟨bf0, bf1⟩ := blk_cells2 HBf.out
      have bfl := lt_of_block HBf.out
      go_wp2_with fail
      refine (Hft.out _ (HL.out.below Hb.out) _ _ He0.out.sl).mono ?_
      rintro e w11 ⟨rfl, hb11⟩
      have Hc0 := Lib.hid (Hc0.out.below hb11)
      have Hd0 := Lib.hid (Hd0.out.below hb11)
      have He0 := Lib.hid (He0.out.below hb11)
      have Hb := Lib.hid (below_nx Hb.out hb11)
      have hz11 := hb11.size
      have HBc := Lib.hid (below_blk hb11 (lt_of_block HBc.out) HBc.out)
      have HBd := Lib.hid (below_blk hb11 (lt_of_block HBd.out) HBd.out)
      have HBe := Lib.hid (below_blk hb11 (lt_of_block HBe.out) HBe.out)
      have HBf := Lib.hid (below_blk hb11 (lt_of_block HBf.out) HBf.out)
      clear hb11
      clear bc0 bc1 bcl
      obtain ⟨bc0, bc1⟩ := blk_cells2 HBc.out
      have bcl := lt_of_block HBc.out
      clear bd0 bd1 bdl
      obtain ⟨bd0, bd1⟩ := blk_cells2 HBd.out
      have bdl := lt_of_block HBd.out
      clear be0 be1 bel
      obtain ⟨be0, be1⟩ := blk_cells2 HBe.out
      have bel := lt_of_block HBe.out
      clear bf0 bf1 bfl
      obtain ⟨bf0, bf1⟩ := blk_cells2 HBf.out
      have bfl := lt_of_block HBf.out
      go_wp2_with fail
      go_ret
      exact ⟨rfl, Hb.out⟩
set_option maxRecDepth 100000 in
set_option maxHeartbeats 400000 in
theorem walk (a0 : Option Addr) (len cap : Nat) (w : World) (hm : len ≤ maxLen) (hlc : len ≤ cap) (hc : len ≤ 1048576 → CodeAt w w.heap.size a0 len) (hL : LW w) :
    Calls Tryz.prog 3 #[.slice a0 len cap] w fun e w' => e = .returned (.bool true) ∧ Below w.heap.size w w' := by
  by_cases hs : len ≤ 1048576
  · exact core a0 len cap hs hlc w (hc hs) hL
  · unfold maxLen at hm
    clear hc
    go_enter Tryz.func3, Tryz.ntmps3
    go_wp2_with (go_at_call 4; go_in)
    go_ret
    exact ⟨rfl, Below.refl _ _⟩
open Go.ChangeMaps (open_string shut_string)
theorem laidOut : laidOutB Tryz.prog = true := by kernel_rfl
theorem own : ownKnob Tryz.prog.godebug = none := by kernel_rfl
set_option maxRecDepth 100000 in
/-- What the walk gives, for every argument and every world that holds the tables. -/
theorem contract (H : Type) (enc : TypeId × Value → H) (W : World) (base : Nat) (args : Array Value) (ds gs : List (DataW H)) (before : List MemPlace)
    (hval : ∀ (j : Nat) t v, Tryz.f3.params[j]? = some t → args[j]? = some v → Value.okWide Tryz.prog W .any base t v)
    (hW : DataW.Whole enc Tryz.prog Tryz.f3.params.toList Rows.fnCircTextSpec.vars false W args.toList ds gs before) (hL : laidMetH Tryz.prog Rows.fnCircTextRow.laid W) (hS : W.ShapedOpen Tryz.prog) :
    Calls Tryz.prog 3 args W fun e W' => ∃ v, e = .returned v ∧ Rows.fnCircTextSpec.post enc Tryz.prog Tryz.f3 false true false false W args v W' := by
  have hW' := hW
  obtain ⟨p, q, hA0, hV, rfl, hfz, hnd⟩ := hW
  have hA : DataW.TrodAll enc Tryz.prog W 0 (fun _ => true) true Tryz.f3.params.toList args.toList ds p := hA0
  rw [Tryz.params3] at hA hval
  obtain ⟨v0, vs0, d0, ds0, p0, q0, hargs, rfl, rfl, h0, r0⟩ := trodAll_cons hA
  obtain ⟨rfl, rfl, rfl⟩ := trodAll_nil r0
  obtain rfl : args = #[v0] := by cases args; simp_all
  obtain ⟨vg0, vt0, vc0, vf0, dv0, vp0, rfl, -, -, -, -, -⟩ := trodVars_one hV
  obtain ⟨ca, cl, cc, rfl⟩ := okWide_slice Tryz.underlying22 (hval 0 22 v0 rfl rfl)
  have k0 := h0
  have lt0 : ∀ x ∈ p0, x.block < W.heap.size := by obtain ⟨m, hm⟩ := k0; exact DataW.trod_lt m _ _ _ hm
  have ch : (cl ≤ 1048576 → CodeAt W W.heap.size ca cl) ∧ cl ≤ maxLen ∧ cl ≤ cc := by
    obtain ⟨fuel, hf⟩ := h0
    rcases open_ints Tryz.underlying22 Tryz.underlying5 (by kernel_rfl) hf with ⟨hcs, _⟩ | ⟨x, l, c, zs, hcs, _, hl, hm, hz, _, hcell, hwz⟩
    · simp [Value.cells] at hcs
      obtain ⟨rfl, rfl, rfl⟩ := hcs
      exact ⟨fun _ => ⟨by omega, fun h => absurd h (by omega)⟩, Nat.zero_le _, Nat.le_refl _⟩
    · simp [Value.cells] at hcs
      obtain ⟨rfl, rfl, rfl⟩ := hcs
      have hz2 : zs.length = cc := by simpa using hz
      exact ⟨fun hs => code_of hs (by omega) hcell hwz, by omega, hl⟩
  clear hA0
  refine (walk ca cl cc W ch.2.1 ch.2.2 ch.1 (lw_of ((MakeChecks.laidMetH_plain _ _ _ (by kernel_rfl)).mp hL) hS)).mono fun e W' ⟨he, hg⟩ => ?_
  subst he
  exact ⟨_, rfl, _, _, _, [], _, _, hW', trodAll_mk1 (shut_bool Tryz.underlying4 _), (trodAll_cons_mk (Below.trod laidOut (by kernel_rfl) (of_decide_eq_true (by kernel_rfl)) k0 hg lt0) trodAll_mk0), Below.trodVars laidOut hg (by kernel_rfl) hV, hg.frame _, fun h => by cases h⟩
/-- A world for the witness: what the program's own start lays. -/
noncomputable def laidWorld (os : Os) : World := World.laidAll Tryz.prog os Rows.fnCircTextRow.laid
theorem laid_met (os : Os) : laidMetH Tryz.prog Rows.fnCircTextRow.laid ((laidWorld os).forCall (fun _ _ => 0) ⟨#[], #[.slice none 0 0], []⟩).memory :=
  by rw [MakeChecks.laidMetH_plain _ _ _ (by kernel_rfl)]; exact laidMet_laidAll _ (by kernel_rfl) (by kernel_rfl)
theorem reads (os : Os) {H : Type} (enc : TypeId × Value → H) : ∃ places, DataW.whole enc Tryz.prog ((laidWorld os).forCall (fun _ _ => 0) ⟨#[], #[.slice none 0 0], []⟩).memory Tryz.f3.params.toList Rows.fnCircTextSpec.vars false #[Value.slice none 0 0].toList 8 = some ([.nil], [Rows.laid_loop_example_g00506_impl_gateNames], places) :=
  ⟨MemPlace.row ⟨0, 0, none⟩ 13, by kernel_rfl⟩
set_option maxRecDepth 100000 in
theorem lifted (os : Os) (started : os.Started) (H : Type) (enc : TypeId × Value → H) (F : Stop.Interp) :
    ReturnsInHanded {} Tryz.checked os 3 .any ((OpenSpec.ofChange Rows.fnCircTextSpec).preRow enc Tryz.prog Tryz.f3 Rows.fnCircTextRow.domain false Rows.fnCircTextRow.laid) (((OpenSpec.ofChange Rows.fnCircTextSpec).at F).post enc Tryz.prog Tryz.f3 false true false false) := by
  obtain ⟨places, hx⟩ := reads os enc
  refine returnsInHanded_of_row (C := Tryz.checked) (s := OpenSpec.ofChange Rows.fnCircTextSpec) own started (by kernel_rfl) Tryz.func3
    (witness_row_at (enc := enc) (C := Tryz.checked) false (laidWorld os) #[.slice none 0 0] (World.laidAll_os _ _ _) (by kernel_rfl) (by kernel_rfl) (by kernel_rfl)
      (OpenSpec.preRow_of_cond 8 hx (by kernel_rfl) (fun k hk => by cases hk) (by kernel_rfl) (laid_met os))) ?_
  intro W base args ds gs before hval hW _ _ _ hL hS _
  exact contract H enc W base args ds gs before hval hW hL hS
theorem said : Rows.FnCircTextSaid :=
  OpenClaim.holds_of_cond 3 Tryz.f3 rfl rfl rfl rfl rfl rfl rfl ⟨rfl, rfl, rfl, rfl, rfl⟩ rfl rfl rfl rfl rfl (by kernel_rfl) Tryz.func3 (by kernel_rfl)
    (of_decide_eq_true (by kernel_rfl)) (by unfold Func.isWrapper; first | (rw [if_pos (by decide +kernel)]; kernel_rfl) | (rw [if_neg (by decide +kernel)]; exact ⟨rfl, rfl⟩))
    (fun os started H enc _ F => by rw [OpenClaim.pre_eq_preRow]; exact lifted os started H enc F)
theorem plain (f : FuncId) (fn : Func) (hf : Tryz.pinned.checked.prog.funcNamed "loop.example/g00506/laws.FnCircText" = some f) (hfn : Tryz.pinned.checked.prog.funcs[f]? = some fn) :
    true = Tryz.pinned.checked.prog.looks [] ∧ ∀ (j : Nat) t, fn.params[j]? = some t → Tryz.pinned.checked.prog.wantsStandIn t = false := by
  obtain rfl : f = 3 := Option.some.inj ((show Tryz.prog.funcNamed "loop.example/g00506/laws.FnCircText" = some 3 by kernel_rfl).symm.trans hf) |>.symm
  obtain rfl : fn = Tryz.f3 := (Option.some.inj (Tryz.func3.symm.trans hfn)).symm
  refine ⟨by kernel_rfl, fun j t ht => ?_⟩
  rw [Tryz.params3] at ht
  have hm : t ∈ [22] := by simpa using Array.mem_of_getElem? ht
  have hall : ([22].all fun u => !Tryz.prog.wantsStandIn u) = true := by kernel_rfl
  exact (show Tryz.prog.wantsStandIn t = false by simpa using List.all_eq_true.1 hall t hm)
theorem card : Rows.FnCircTextCardSaid :=
  Claim7.holds_tied_plain_at .later [] _ _ _ _ said (fun _ h => by cases h) (by kernel_rfl) (fun _ h => by cases h) fnCircText_row_tie rfl ⟨rfl, rfl⟩ (by kernel_rfl) rfl plain (by kernel_rfl)
end Go.Proofs.YtbnkanlebjpkfaaGreatDoor.fnCircText
