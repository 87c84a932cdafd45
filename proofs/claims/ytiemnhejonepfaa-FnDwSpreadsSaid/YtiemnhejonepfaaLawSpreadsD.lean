/- The law FnDwSpreads: the product in D[omega] spreads over the sum, at every code. No condition. -/
import Derived.Test.YtiemnhejonepfaaDwR
import Derived.Test.YtiemnhejonepfaaDwS
import Derived.Test.YtiemnhejonepfaaDwDraw2
import Derived.Test.YtiemnhejonepfaaZwDraw3
import Derived.Lib.SmallJoins
import Derived.WalkKit
import Derived.ProofKit
import Derived.OpenShut
import Derived.Deep.DeepHandedRow
import Derived.Lib.LaidTab
import Derived.LaidMore
import Derived.LaidHandle
import Derived.Lay
import Derived.Stop.LaidErr
namespace Go.Proofs.Ytiemnhejonepfaa.fnDwSpreads
open Go.ChangeShapes Go.WideShapes Go.ChangeAt Go.RowKit Go.Lib
attribute [local irreducible] World.cell?
set_option maxRecDepth 100000 in
set_option maxHeartbeats 3200000 in
theorem core (a0 : Option Addr) (len cap : Nat) (hs : len ≤ 1048576) (hl : len ≤ cap) (w : World) (hcode : CodeAt w w.heap.size a0 len) :
    Calls Try.prog 6 #[.slice a0 len cap] w fun e w' => e = .returned (.bool true) ∧ Below w.heap.size w w' := by
  have Hc := Lib.hid hcode
  have HS0 := Lib.hid (show D0 w w from Below.refl _ _)
  clear hcode
  go_enter Try.func6, Try.ntmps6
  go_wp2_with (go_at_call 14; go_in)
  refine (drawAddD_any a0 len cap _ Hc.out).mono ?_
  rintro e w1 ⟨⟨x, y, rfl, ebx, eby⟩, hb1⟩
  have hS1 := HS0.out.below hb1
  clear hb1
  have HS1 := Lib.hid (D1.push (D0.push hS1 x 29 (w1.heap.size) (by simp)) y 29 (w1.heap.size + 1) (by simp))
  clear hS1
  go_wp2_with fail
  refine (tail_any a0 len cap _ hl ((Hc.out.below HS1.out.low).mono HS1.out.low.size)).mono ?_
  rintro e w' ⟨⟨a1, l1, cap1, rfl, hcode1⟩, rfl⟩
  have Hc1 := Lib.hid hcode1
  clear hcode1
  go_wp2_with fail
  refine (drawAddD_any a1 l1 cap1 _ Hc1.out).mono ?_
  rintro e w2 ⟨⟨z, z2, rfl, ebz, ebz2⟩, hb2⟩
  have hS2 := HS1.out.below hb2
  clear hb2
  obtain ⟨c2_0a, c2_0b, c2_0c, c2_0d, c2_0e, c2_1a, c2_1b, c2_1c, c2_1d, c2_1e, c2_z0, c2_z1, c2_l⟩ := hS2
  have HS2 := Lib.hid (D3.push (D2.push (show D2 w w1.heap.size (w1.heap.size + 1) x y w2 from ⟨c2_0a, c2_0b, c2_0c, c2_0d, c2_0e, c2_1a, c2_1b, c2_1c, c2_1d, c2_1e, c2_z0, c2_z1, c2_l⟩) z 29 (w2.heap.size) (by simp)) z2 29 (w2.heap.size + 1) (by simp))
  have Ha := Lib.hid (fun w => iaddD_any x y w ebx.1 ebx.2 eby.1 eby.2)
  have Hp := Lib.hid (fun w => imulD_any x z w ebx.1 ebx.2 ebz.1 ebz.2)
  have Hq := Lib.hid (fun w => imulD_any y z w eby.1 eby.2 ebz.1 ebz.2)
  have Hr := Lib.hid (fun w => imulD_any (dAddV x y) z w (eb_add x y).1 (eb_add x y).2 ebz.1 ebz.2)
  have Ht := Lib.hid (fun w => iaddD_any (dMulV x z) (dMulV y z) w (eb_mul x z).1 (eb_mul x z).2 (eb_mul y z).1 (eb_mul y z).2)
  have Hm := Lib.hid (smulD_any x z)
  have Hall := Lib.hid (@dspreads x y z)
  clear ebx eby ebz ebz2
  generalize dMulV (dAddV x y) z = r at *
  generalize dMulB (dAddV x y) z = t4 at *
  generalize dAddV (dMulV x z) (dMulV y z) = r2 at *
  generalize dAddB (dMulV x z) (dMulV y z) = t5 at *
  generalize dAddV x y = s at *
  generalize dAddB x y = t1 at *
  generalize dMulV x z = p at *
  generalize dMulB x z = t2 at *
  generalize dMulV y z = q at *
  generalize dMulB y z = t3 at *
  go_wp2_with fail
  refine (Ha.out _).mono ?_
  rintro e w3 ⟨rfl, hb3⟩
  have hS3 := HS2.out.below hb3
  clear c2_0a c2_0b c2_0c c2_0d c2_0e c2_1a c2_1b c2_1c c2_1d c2_1e c2_z0 c2_z1 c2_l
  clear hb3
  obtain ⟨c3_0a, c3_0b, c3_0c, c3_0d, c3_0e, c3_1a, c3_1b, c3_1c, c3_1d, c3_1e, c3_2a, c3_2b, c3_2c, c3_2d, c3_2e, c3_3a, c3_3b, c3_3c, c3_3d, c3_3e, c3_z0, c3_z1, c3_z2, c3_z3, c3_l⟩ := hS3
  have HS3 := Lib.hid (D3.push (show D3 w w1.heap.size (w1.heap.size + 1) w2.heap.size x y z w3 from ⟨c3_0a, c3_0b, c3_0c, c3_0d, c3_0e, c3_1a, c3_1b, c3_1c, c3_1d, c3_1e, c3_2a, c3_2b, c3_2c, c3_2d, c3_2e, c3_z0, c3_z1, c3_z2, c3_l⟩) s 29 (w3.heap.size) (by simp))
  go_wp2_with fail
  refine (Hp.out _).mono ?_
  rintro e w4 ⟨rfl, hb4⟩
  have hS4 := HS3.out.below hb4
  clear c3_0a c3_0b c3_0c c3_0d c3_0e c3_1a c3_1b c3_1c c3_1d c3_1e c3_2a c3_2b c3_2c c3_2d c3_2e c3_3a c3_3b c3_3c c3_3d c3_3e c3_z0 c3_z1 c3_z2 c3_z3 c3_l
  clear hb4
  obtain ⟨c4_0a, c4_0b, c4_0c, c4_0d, c4_0e, c4_1a, c4_1b, c4_1c, c4_1d, c4_1e, c4_2a, c4_2b, c4_2c, c4_2d, c4_2e, c4_3a, c4_3b, c4_3c, c4_3d, c4_3e, c4_z0, c4_z1, c4_z2, c4_z3, c4_l⟩ := hS4
  have HS4 := Lib.hid (D4.push (show D4 w w1.heap.size (w1.heap.size + 1) w2.heap.size w3.heap.size x y z s w4 from ⟨c4_0a, c4_0b, c4_0c, c4_0d, c4_0e, c4_1a, c4_1b, c4_1c, c4_1d, c4_1e, c4_2a, c4_2b, c4_2c, c4_2d, c4_2e, c4_3a, c4_3b, c4_3c, c4_3d, c4_3e, c4_z0, c4_z1, c4_z2, c4_z3, c4_l⟩) p 29 (w4.heap.size) (by simp))
  go_wp2_with fail
  refine (Hq.out _).mono ?_
  rintro e w5 ⟨rfl, hb5⟩
  have hS5 := HS4.out.below hb5
  clear c4_0a c4_0b c4_0c c4_0d c4_0e c4_1a c4_1b c4_1c c4_1d c4_1e c4_2a c4_2b c4_2c c4_2d c4_2e c4_3a c4_3b c4_3c c4_3d c4_3e c4_z0 c4_z1 c4_z2 c4_z3 c4_l
  clear hb5
  obtain ⟨c5_0a, c5_0b, c5_0c, c5_0d, c5_0e, c5_1a, c5_1b, c5_1c, c5_1d, c5_1e, c5_2a, c5_2b, c5_2c, c5_2d, c5_2e, c5_3a, c5_3b, c5_3c, c5_3d, c5_3e, c5_4a, c5_4b, c5_4c, c5_4d, c5_4e, c5_z0, c5_z1, c5_z2, c5_z3, c5_z4, c5_l⟩ := hS5
  have HS5 := Lib.hid (D5.push (show D5 w w1.heap.size (w1.heap.size + 1) w2.heap.size w3.heap.size w4.heap.size x y z s p w5 from ⟨c5_0a, c5_0b, c5_0c, c5_0d, c5_0e, c5_1a, c5_1b, c5_1c, c5_1d, c5_1e, c5_2a, c5_2b, c5_2c, c5_2d, c5_2e, c5_3a, c5_3b, c5_3c, c5_3d, c5_3e, c5_4a, c5_4b, c5_4c, c5_4d, c5_4e, c5_z0, c5_z1, c5_z2, c5_z3, c5_z4, c5_l⟩) q 29 (w5.heap.size) (by simp))
  go_wp2_with fail
  refine (Hr.out _).mono ?_
  rintro e w6 ⟨rfl, hb6⟩
  have hS6 := HS5.out.below hb6
  clear c5_0a c5_0b c5_0c c5_0d c5_0e c5_1a c5_1b c5_1c c5_1d c5_1e c5_2a c5_2b c5_2c c5_2d c5_2e c5_3a c5_3b c5_3c c5_3d c5_3e c5_4a c5_4b c5_4c c5_4d c5_4e c5_z0 c5_z1 c5_z2 c5_z3 c5_z4 c5_l
  clear hb6
  obtain ⟨c6_0a, c6_0b, c6_0c, c6_0d, c6_0e, c6_1a, c6_1b, c6_1c, c6_1d, c6_1e, c6_2a, c6_2b, c6_2c, c6_2d, c6_2e, c6_3a, c6_3b, c6_3c, c6_3d, c6_3e, c6_4a, c6_4b, c6_4c, c6_4d, c6_4e, c6_5a, c6_5b, c6_5c, c6_5d, c6_5e, c6_z0, c6_z1, c6_z2, c6_z3, c6_z4, c6_z5, c6_l⟩ := hS6
  have HS6 := Lib.hid (D4.push (show D4 w w1.heap.size w2.heap.size w4.heap.size w5.heap.size x z p q w6 from ⟨c6_0a, c6_0b, c6_0c, c6_0d, c6_0e, c6_2a, c6_2b, c6_2c, c6_2d, c6_2e, c6_4a, c6_4b, c6_4c, c6_4d, c6_4e, c6_5a, c6_5b, c6_5c, c6_5d, c6_5e, c6_z0, c6_z2, c6_z4, c6_z5, c6_l⟩) r 29 (w6.heap.size) (by simp))
  go_wp2_with fail
  refine (Ht.out _).mono ?_
  rintro e w7 ⟨rfl, hb7⟩
  have hS7 := HS6.out.below hb7
  clear c6_0a c6_0b c6_0c c6_0d c6_0e c6_1a c6_1b c6_1c c6_1d c6_1e c6_2a c6_2b c6_2c c6_2d c6_2e c6_3a c6_3b c6_3c c6_3d c6_3e c6_4a c6_4b c6_4c c6_4d c6_4e c6_5a c6_5b c6_5c c6_5d c6_5e c6_z0 c6_z1 c6_z2 c6_z3 c6_z4 c6_z5 c6_l
  clear hb7
  obtain ⟨c7_0a, c7_0b, c7_0c, c7_0d, c7_0e, c7_1a, c7_1b, c7_1c, c7_1d, c7_1e, c7_2a, c7_2b, c7_2c, c7_2d, c7_2e, c7_3a, c7_3b, c7_3c, c7_3d, c7_3e, c7_4a, c7_4b, c7_4c, c7_4d, c7_4e, c7_z0, c7_z1, c7_z2, c7_z3, c7_z4, c7_l⟩ := hS7
  have HS7 := Lib.hid (D3.push (show D3 w w1.heap.size w2.heap.size w6.heap.size x z r w7 from ⟨c7_0a, c7_0b, c7_0c, c7_0d, c7_0e, c7_1a, c7_1b, c7_1c, c7_1d, c7_1e, c7_4a, c7_4b, c7_4c, c7_4d, c7_4e, c7_z0, c7_z1, c7_z4, c7_l⟩) r2 29 (w7.heap.size) (by simp))
  cases t1
  · go_wp2_with fail
    refine (Hm.out _).mono ?_
    rintro e w8 ⟨rfl, hb8⟩
    have hS8 := HS7.out.below hb8
    clear c7_0a c7_0b c7_0c c7_0d c7_0e c7_1a c7_1b c7_1c c7_1d c7_1e c7_2a c7_2b c7_2c c7_2d c7_2e c7_3a c7_3b c7_3c c7_3d c7_3e c7_4a c7_4b c7_4c c7_4d c7_4e c7_z0 c7_z1 c7_z2 c7_z3 c7_z4 c7_l
    clear hb8
    obtain ⟨c8_0a, c8_0b, c8_0c, c8_0d, c8_0e, c8_1a, c8_1b, c8_1c, c8_1d, c8_1e, c8_2a, c8_2b, c8_2c, c8_2d, c8_2e, c8_3a, c8_3b, c8_3c, c8_3d, c8_3e, c8_z0, c8_z1, c8_z2, c8_z3, c8_l⟩ := hS8
    have HS8 := Lib.hid (D4.push (show D4 w w1.heap.size w2.heap.size w6.heap.size w7.heap.size x z r r2 w8 from ⟨c8_0a, c8_0b, c8_0c, c8_0d, c8_0e, c8_1a, c8_1b, c8_1c, c8_1d, c8_1e, c8_2a, c8_2b, c8_2c, c8_2d, c8_2e, c8_3a, c8_3b, c8_3c, c8_3d, c8_3e, c8_z0, c8_z1, c8_z2, c8_z3, c8_l⟩) p 29 (w8.heap.size) (by simp))
    go_wp2_with fail
    go_returns
    exact ⟨rfl, HS8.out.low⟩
  · skip
    cases t2
    · go_wp2_with fail
      refine (Hm.out _).mono ?_
      rintro e w8 ⟨rfl, hb8⟩
      have hS8 := HS7.out.below hb8
      clear c7_0a c7_0b c7_0c c7_0d c7_0e c7_1a c7_1b c7_1c c7_1d c7_1e c7_2a c7_2b c7_2c c7_2d c7_2e c7_3a c7_3b c7_3c c7_3d c7_3e c7_4a c7_4b c7_4c c7_4d c7_4e c7_z0 c7_z1 c7_z2 c7_z3 c7_z4 c7_l
      clear hb8
      obtain ⟨c8_0a, c8_0b, c8_0c, c8_0d, c8_0e, c8_1a, c8_1b, c8_1c, c8_1d, c8_1e, c8_2a, c8_2b, c8_2c, c8_2d, c8_2e, c8_3a, c8_3b, c8_3c, c8_3d, c8_3e, c8_z0, c8_z1, c8_z2, c8_z3, c8_l⟩ := hS8
      have HS8 := Lib.hid (D4.push (show D4 w w1.heap.size w2.heap.size w6.heap.size w7.heap.size x z r r2 w8 from ⟨c8_0a, c8_0b, c8_0c, c8_0d, c8_0e, c8_1a, c8_1b, c8_1c, c8_1d, c8_1e, c8_2a, c8_2b, c8_2c, c8_2d, c8_2e, c8_3a, c8_3b, c8_3c, c8_3d, c8_3e, c8_z0, c8_z1, c8_z2, c8_z3, c8_l⟩) p 29 (w8.heap.size) (by simp))
      go_wp2_with fail
      go_returns
      exact ⟨rfl, HS8.out.low⟩
    · skip
      cases t3
      · go_wp2_with fail
        refine (Hm.out _).mono ?_
        rintro e w8 ⟨rfl, hb8⟩
        have hS8 := HS7.out.below hb8
        clear c7_0a c7_0b c7_0c c7_0d c7_0e c7_1a c7_1b c7_1c c7_1d c7_1e c7_2a c7_2b c7_2c c7_2d c7_2e c7_3a c7_3b c7_3c c7_3d c7_3e c7_4a c7_4b c7_4c c7_4d c7_4e c7_z0 c7_z1 c7_z2 c7_z3 c7_z4 c7_l
        clear hb8
        obtain ⟨c8_0a, c8_0b, c8_0c, c8_0d, c8_0e, c8_1a, c8_1b, c8_1c, c8_1d, c8_1e, c8_2a, c8_2b, c8_2c, c8_2d, c8_2e, c8_3a, c8_3b, c8_3c, c8_3d, c8_3e, c8_z0, c8_z1, c8_z2, c8_z3, c8_l⟩ := hS8
        have HS8 := Lib.hid (D4.push (show D4 w w1.heap.size w2.heap.size w6.heap.size w7.heap.size x z r r2 w8 from ⟨c8_0a, c8_0b, c8_0c, c8_0d, c8_0e, c8_1a, c8_1b, c8_1c, c8_1d, c8_1e, c8_2a, c8_2b, c8_2c, c8_2d, c8_2e, c8_3a, c8_3b, c8_3c, c8_3d, c8_3e, c8_z0, c8_z1, c8_z2, c8_z3, c8_l⟩) p 29 (w8.heap.size) (by simp))
        go_wp2_with fail
        go_returns
        exact ⟨rfl, HS8.out.low⟩
      · skip
        cases t4
        · go_wp2_with fail
          refine (Hm.out _).mono ?_
          rintro e w8 ⟨rfl, hb8⟩
          have hS8 := HS7.out.below hb8
          clear c7_0a c7_0b c7_0c c7_0d c7_0e c7_1a c7_1b c7_1c c7_1d c7_1e c7_2a c7_2b c7_2c c7_2d c7_2e c7_3a c7_3b c7_3c c7_3d c7_3e c7_4a c7_4b c7_4c c7_4d c7_4e c7_z0 c7_z1 c7_z2 c7_z3 c7_z4 c7_l
          clear hb8
          obtain ⟨c8_0a, c8_0b, c8_0c, c8_0d, c8_0e, c8_1a, c8_1b, c8_1c, c8_1d, c8_1e, c8_2a, c8_2b, c8_2c, c8_2d, c8_2e, c8_3a, c8_3b, c8_3c, c8_3d, c8_3e, c8_z0, c8_z1, c8_z2, c8_z3, c8_l⟩ := hS8
          have HS8 := Lib.hid (D4.push (show D4 w w1.heap.size w2.heap.size w6.heap.size w7.heap.size x z r r2 w8 from ⟨c8_0a, c8_0b, c8_0c, c8_0d, c8_0e, c8_1a, c8_1b, c8_1c, c8_1d, c8_1e, c8_2a, c8_2b, c8_2c, c8_2d, c8_2e, c8_3a, c8_3b, c8_3c, c8_3d, c8_3e, c8_z0, c8_z1, c8_z2, c8_z3, c8_l⟩) p 29 (w8.heap.size) (by simp))
          go_wp2_with fail
          go_returns
          exact ⟨rfl, HS8.out.low⟩
        · skip
          cases t5
          · go_wp2_with fail
            refine (Hm.out _).mono ?_
            rintro e w8 ⟨rfl, hb8⟩
            have hS8 := HS7.out.below hb8
            clear c7_0a c7_0b c7_0c c7_0d c7_0e c7_1a c7_1b c7_1c c7_1d c7_1e c7_2a c7_2b c7_2c c7_2d c7_2e c7_3a c7_3b c7_3c c7_3d c7_3e c7_4a c7_4b c7_4c c7_4d c7_4e c7_z0 c7_z1 c7_z2 c7_z3 c7_z4 c7_l
            clear hb8
            obtain ⟨c8_0a, c8_0b, c8_0c, c8_0d, c8_0e, c8_1a, c8_1b, c8_1c, c8_1d, c8_1e, c8_2a, c8_2b, c8_2c, c8_2d, c8_2e, c8_3a, c8_3b, c8_3c, c8_3d, c8_3e, c8_z0, c8_z1, c8_z2, c8_z3, c8_l⟩ := hS8
            have HS8 := Lib.hid (D4.push (show D4 w w1.heap.size w2.heap.size w6.heap.size w7.heap.size x z r r2 w8 from ⟨c8_0a, c8_0b, c8_0c, c8_0d, c8_0e, c8_1a, c8_1b, c8_1c, c8_1d, c8_1e, c8_2a, c8_2b, c8_2c, c8_2d, c8_2e, c8_3a, c8_3b, c8_3c, c8_3d, c8_3e, c8_z0, c8_z1, c8_z2, c8_z3, c8_l⟩) p 29 (w8.heap.size) (by simp))
            go_wp2_with fail
            go_returns
            exact ⟨rfl, HS8.out.low⟩
          · skip
            obtain rfl := Hall.out (by trivial) (by trivial) (by trivial) (by trivial) (by trivial)
            go_wp2_with fail
            go_returns
            exact ⟨rfl, HS7.out.low⟩
set_option maxRecDepth 100000 in
set_option maxHeartbeats 400000 in
theorem walk (a0 : Option Addr) (len cap : Nat) (w : World) (hm : len ≤ maxLen) (hl : len ≤ cap) (hc : len ≤ 1048576 → CodeAt w w.heap.size a0 len) :
    Calls Try.prog 6 #[.slice a0 len cap] w fun e w' => e = .returned (.bool true) ∧ Below w.heap.size w w' := by
  by_cases hs : len ≤ 1048576
  · exact core a0 len cap hs hl w (hc hs)
  · unfold maxLen at hm
    clear hc
    go_enter Try.func6, Try.ntmps6
    go_wp2_with (go_at_call 14; go_in)
    go_ret
    exact ⟨rfl, Below.refl _ _⟩

open Go.ChangeMaps (open_string shut_string)
theorem laidOut : laidOutB Try.prog = true := by kernel_rfl
theorem own : ownKnob Try.prog.godebug = none := by kernel_rfl
set_option maxRecDepth 100000 in
/-- What the walk gives, for every argument. -/
theorem contract (H : Type) (enc : TypeId × Value → H) (W : World) (base : Nat) (args : Array Value) (ds gs : List (DataW H)) (before : List MemPlace)
    (hval : ∀ (j : Nat) t v, Try.f6.params[j]? = some t → args[j]? = some v → Value.okWide Try.prog W .any base t v)
    (hW : DataW.Whole enc Try.prog Try.f6.params.toList Rows.fnDwSpreadsSpec.vars false W args.toList ds gs before) :
    Calls Try.prog 6 args W fun e W' => ∃ v, e = .returned v ∧ Rows.fnDwSpreadsSpec.post enc Try.prog Try.f6 false true false false W args v W' := by
  have hW' := hW
  obtain ⟨p, q, hA0, hV, rfl, hfz, hnd⟩ := hW
  have hA : DataW.TrodAll enc Try.prog W 0 (fun _ => true) true Try.f6.params.toList args.toList ds p := hA0
  rw [Try.params6] at hA hval
  obtain ⟨v0, vs0, d0, ds0, p0, q0, hargs, rfl, rfl, h0, r0⟩ := trodAll_cons hA
  obtain ⟨rfl, rfl, rfl⟩ := trodAll_nil r0
  obtain rfl : args = #[v0] := by cases args; simp_all
  obtain ⟨rfl, rfl⟩ := trodVars_none hV
  obtain ⟨ca, cl, cc, rfl⟩ := okWide_slice Try.underlying22 (hval 0 22 v0 rfl rfl)
  have k0 := h0
  have lt0 : ∀ x ∈ p0, x.block < W.heap.size := by obtain ⟨m, hm⟩ := k0; exact DataW.trod_lt m _ _ _ hm
  have ch : (cl ≤ 1048576 → CodeAt W W.heap.size ca cl) ∧ cl ≤ maxLen ∧ cl ≤ cc := by
    obtain ⟨fuel, hf⟩ := h0
    rcases open_ints Try.underlying22 Try.underlying5 (by kernel_rfl) hf with ⟨hcs, _⟩ | ⟨x, l, c, zs, hcs, _, hl, hm, hz, _, hcell, hwz⟩
    · simp [Value.cells] at hcs
      obtain ⟨rfl, rfl, rfl⟩ := hcs
      exact ⟨fun _ => ⟨by omega, fun h => absurd h (by omega)⟩, Nat.zero_le _, Nat.le_refl _⟩
    · simp [Value.cells] at hcs
      obtain ⟨rfl, rfl, rfl⟩ := hcs
      have hz2 : zs.length = cc := by simpa using hz
      exact ⟨fun hs => code_of hs (by omega) hcell hwz, by omega, hl⟩
  clear hA0
  simp only [List.append_nil] at hW'
  refine (walk ca cl cc W ch.2.1 ch.2.2 ch.1).mono fun e W' ⟨he, hg⟩ => ?_
  subst he
  exact ⟨_, rfl, _, _, _, [], _, [], hW', trodAll_mk1 (shut_bool Try.underlying4 _), (trodAll_cons_mk (Below.trod laidOut (by kernel_rfl) (of_decide_eq_true (by kernel_rfl)) k0 hg lt0) trodAll_mk0), rfl, hg.frame _, fun h => by cases h⟩

set_option maxRecDepth 100000 in
theorem lifted (os : Os) (started : os.Started) (H : Type) (enc : TypeId × Value → H) :
    ReturnsInHanded {} Try.checked os 6 .any (Rows.fnDwSpreadsSpec.pre6 enc Try.prog Try.f6 Rows.fnDwSpreadsRow.domain false) (Rows.fnDwSpreadsSpec.post enc Try.prog Try.f6 false true false false) := by
  refine returnsInHanded_of_change (C := Try.checked) own started (by kernel_rfl) Try.func6
    (ChangeSpec.witness6 (enc := enc) (C := Try.checked) false ⟨#[], #[.slice none 0 0], []⟩ 8 (by kernel_rfl) (by kernel_rfl) (by kernel_rfl) (by kernel_rfl)) ?_
  intro W base args ds gs before hval hW _ _
  exact contract H enc W base args ds gs before hval hW
theorem said : Rows.FnDwSpreadsSaid :=
  OpenClaim.holds_of_wide 6 Try.f6 rfl rfl rfl rfl rfl rfl rfl ⟨rfl, rfl, rfl, rfl, rfl⟩ rfl rfl rfl rfl rfl (by kernel_rfl) Try.func6 (by kernel_rfl)
    (of_decide_eq_true (by kernel_rfl)) (by unfold Func.isWrapper; first | (rw [if_pos (by decide +kernel)]; kernel_rfl) | (rw [if_neg (by decide +kernel)]; exact ⟨rfl, rfl⟩))
    (fun os started H enc _ => lifted os started H enc)
end Go.Proofs.Ytiemnhejonepfaa.fnDwSpreads
