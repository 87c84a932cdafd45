/- The law FnByRoot: division by the square root of 2 undoes the product by it, at every code. No condition. -/
import Derived.Test.YtiejaciofgiffaaZwM
import Derived.Test.YtiejaciofgiffaaZwDraw3
import Derived.Lib.SmallJoins
import Derived.WalkKit
import Derived.ProofKit
import Derived.OpenShut
import Derived.Deep.DeepHandedRow
import Derived.Lib.LaidTab
import Derived.LaidMore
import Derived.LaidHandle
import Derived.Lay
import Derived.Stop.LaidErr
namespace Go.Proofs.Ytiejaciofgiffaa.fnByRoot
open Go.ChangeShapes Go.WideShapes Go.ChangeAt Go.RowKit Go.Lib
set_option maxRecDepth 100000 in
set_option maxHeartbeats 1600000 in
theorem core (a0 : Option Addr) (len cap : Nat) (hs : len ≤ 1048576) (hl : len ≤ cap) (w : World) (hcode : CodeAt w w.heap.size a0 len) :
    Calls Try.prog 6 #[.slice a0 len cap] w fun e w' => e = .returned (.bool true) ∧ Below w.heap.size w w' := by
  have Hc := Lib.hid hcode
  have HS0 := Lib.hid (show S0 w w from Below.refl _ _)
  clear hcode
  go_enter Try.func6, Try.ntmps6
  go_wp2_with (go_at_call 14; go_in)
  refine (drawDiv_any a0 len cap _ Hc.out).mono ?_
  rintro e w1 ⟨⟨x, rfl⟩, hb1⟩
  have hS1 := HS0.out.below hb1
  clear hb1
  have HS1 := Lib.hid (S0.push hS1 x 25 (w1.heap.size) (by simp))
  clear hS1
  have Hi := Lib.hid (idiv_any x)
  have Hs := Lib.hid (sdiv_any x)
  have Hd := Lib.hid (@div_back x)
  generalize divV x = y at *
  generalize divB x = t at *
  go_wp2_with fail
  refine (Hi.out _).mono ?_
  rintro e w2 ⟨rfl, hb2⟩
  have hS2 := HS1.out.below hb2
  clear hb2
  obtain ⟨c2_0a, c2_0b, c2_0c, c2_0d, c2_z0, c2_l⟩ := hS2
  have HS2 := Lib.hid (S1.push (show S1 w w1.heap.size x w2 from ⟨c2_0a, c2_0b, c2_0c, c2_0d, c2_z0, c2_l⟩) y 25 (w2.heap.size) (by simp))
  go_wp2_with fail
  refine (Hs.out _).mono ?_
  rintro e w3 ⟨rfl, hb3⟩
  have hS3 := HS2.out.below hb3
  clear c2_0a c2_0b c2_0c c2_0d c2_z0 c2_l
  clear hb3
  obtain ⟨c3_0a, c3_0b, c3_0c, c3_0d, c3_1a, c3_1b, c3_1c, c3_1d, c3_z0, c3_z1, c3_l⟩ := hS3
  have HS3 := Lib.hid (S3.push (S2.push (show S2 w w1.heap.size w2.heap.size x y w3 from ⟨c3_0a, c3_0b, c3_0c, c3_0d, c3_1a, c3_1b, c3_1c, c3_1d, c3_z0, c3_z1, c3_l⟩) y 25 (w3.heap.size) (by simp)) rootE 25 (w3.heap.size + 1) (by simp))
  cases t
  · go_wp2_with fail
    refine (drawValid_any a0 len cap _ ((Hc.out.below HS3.out.low).mono HS3.out.low.size)).mono ?_
    rintro e w4 ⟨⟨v, rfl⟩, hb4⟩
    have hS4 := HS3.out.below hb4
    clear c3_0a c3_0b c3_0c c3_0d c3_1a c3_1b c3_1c c3_1d c3_z0 c3_z1 c3_l
    clear hb4
    obtain ⟨c4_0a, c4_0b, c4_0c, c4_0d, c4_1a, c4_1b, c4_1c, c4_1d, c4_2a, c4_2b, c4_2c, c4_2d, c4_3a, c4_3b, c4_3c, c4_3d, c4_z0, c4_z1, c4_z2, c4_z3, c4_l⟩ := hS4
    have HS4 := Lib.hid (S4.push (show S4 w w1.heap.size w2.heap.size w3.heap.size (w3.heap.size + 1) x y y rootE w4 from ⟨c4_0a, c4_0b, c4_0c, c4_0d, c4_1a, c4_1b, c4_1c, c4_1d, c4_2a, c4_2b, c4_2c, c4_2d, c4_3a, c4_3b, c4_3c, c4_3d, c4_z0, c4_z1, c4_z2, c4_z3, c4_l⟩) v 25 (w4.heap.size) (by simp))
    have Hm := Lib.hid (imul_any v rootE)
    have Hk := Lib.hid (@root_back v)
    generalize mulV v rootE = r at *
    generalize mulB v rootE = u at *
    go_wp2_with fail
    refine (Hm.out _).mono ?_
    rintro e w5 ⟨rfl, hb5⟩
    have hS5 := HS4.out.below hb5
    clear c4_0a c4_0b c4_0c c4_0d c4_1a c4_1b c4_1c c4_1d c4_2a c4_2b c4_2c c4_2d c4_3a c4_3b c4_3c c4_3d c4_z0 c4_z1 c4_z2 c4_z3 c4_l
    clear hb5
    obtain ⟨c5_0a, c5_0b, c5_0c, c5_0d, c5_1a, c5_1b, c5_1c, c5_1d, c5_2a, c5_2b, c5_2c, c5_2d, c5_3a, c5_3b, c5_3c, c5_3d, c5_4a, c5_4b, c5_4c, c5_4d, c5_z0, c5_z1, c5_z2, c5_z3, c5_z4, c5_l⟩ := hS5
    have HS5 := Lib.hid (S5.push (show S5 w w1.heap.size w2.heap.size w3.heap.size (w3.heap.size + 1) w4.heap.size x y y rootE v w5 from ⟨c5_0a, c5_0b, c5_0c, c5_0d, c5_1a, c5_1b, c5_1c, c5_1d, c5_2a, c5_2b, c5_2c, c5_2d, c5_3a, c5_3b, c5_3c, c5_3d, c5_4a, c5_4b, c5_4c, c5_4d, c5_z0, c5_z1, c5_z2, c5_z3, c5_z4, c5_l⟩) r 25 (w5.heap.size) (by simp))
    cases u
    · go_wp2_with fail
      go_returns
      exact ⟨rfl, HS5.out.low⟩
    · obtain ⟨hk1, hk2⟩ := Hk.out rfl
      have Hj := Lib.hid (idiv_any r)
      rw [hk1, hk2] at Hj
      clear hk1 hk2
      go_wp2_with fail
      refine (Hj.out _).mono ?_
      rintro e w6 ⟨rfl, hb6⟩
      have hS6 := HS5.out.below hb6
      clear c5_0a c5_0b c5_0c c5_0d c5_1a c5_1b c5_1c c5_1d c5_2a c5_2b c5_2c c5_2d c5_3a c5_3b c5_3c c5_3d c5_4a c5_4b c5_4c c5_4d c5_z0 c5_z1 c5_z2 c5_z3 c5_z4 c5_l
      clear hb6
      obtain ⟨c6_0a, c6_0b, c6_0c, c6_0d, c6_1a, c6_1b, c6_1c, c6_1d, c6_2a, c6_2b, c6_2c, c6_2d, c6_3a, c6_3b, c6_3c, c6_3d, c6_4a, c6_4b, c6_4c, c6_4d, c6_5a, c6_5b, c6_5c, c6_5d, c6_z0, c6_z1, c6_z2, c6_z3, c6_z4, c6_z5, c6_l⟩ := hS6
      have HS6 := Lib.hid (S6.push (show S6 w w1.heap.size w2.heap.size w3.heap.size (w3.heap.size + 1) w4.heap.size w5.heap.size x y y rootE v r w6 from ⟨c6_0a, c6_0b, c6_0c, c6_0d, c6_1a, c6_1b, c6_1c, c6_1d, c6_2a, c6_2b, c6_2c, c6_2d, c6_3a, c6_3b, c6_3c, c6_3d, c6_4a, c6_4b, c6_4c, c6_4d, c6_5a, c6_5b, c6_5c, c6_5d, c6_z0, c6_z1, c6_z2, c6_z3, c6_z4, c6_z5, c6_l⟩) v 25 (w6.heap.size) (by simp))
      go_wp2_with fail
      go_returns
      exact ⟨rfl, HS6.out.low⟩
  · obtain ⟨hk1, hk2⟩ := Hd.out rfl
    have Hj := Lib.hid (imul_any y rootE)
    rw [hk1, hk2] at Hj
    clear hk1 hk2
    go_wp2_with fail
    refine (Hj.out _).mono ?_
    rintro e w4 ⟨rfl, hb4⟩
    have hS4 := HS3.out.below hb4
    clear c3_0a c3_0b c3_0c c3_0d c3_1a c3_1b c3_1c c3_1d c3_z0 c3_z1 c3_l
    clear hb4
    obtain ⟨c4_0a, c4_0b, c4_0c, c4_0d, c4_1a, c4_1b, c4_1c, c4_1d, c4_2a, c4_2b, c4_2c, c4_2d, c4_3a, c4_3b, c4_3c, c4_3d, c4_z0, c4_z1, c4_z2, c4_z3, c4_l⟩ := hS4
    have HS4 := Lib.hid (S4.push (show S4 w w1.heap.size w2.heap.size w3.heap.size (w3.heap.size + 1) x y y rootE w4 from ⟨c4_0a, c4_0b, c4_0c, c4_0d, c4_1a, c4_1b, c4_1c, c4_1d, c4_2a, c4_2b, c4_2c, c4_2d, c4_3a, c4_3b, c4_3c, c4_3d, c4_z0, c4_z1, c4_z2, c4_z3, c4_l⟩) x 25 (w4.heap.size) (by simp))
    go_wp2_with fail
    go_returns
    exact ⟨rfl, HS4.out.low⟩
set_option maxRecDepth 100000 in
set_option maxHeartbeats 400000 in
theorem walk (a0 : Option Addr) (len cap : Nat) (w : World) (hm : len ≤ maxLen) (hl : len ≤ cap) (hc : len ≤ 1048576 → CodeAt w w.heap.size a0 len) :
    Calls Try.prog 6 #[.slice a0 len cap] w fun e w' => e = .returned (.bool true) ∧ Below w.heap.size w w' := by
  by_cases hs : len ≤ 1048576
  · exact core a0 len cap hs hl w (hc hs)
  · unfold maxLen at hm
    clear hc
    go_enter Try.func6, Try.ntmps6
    go_wp2_with (go_at_call 14; go_in)
    go_ret
    exact ⟨rfl, Below.refl _ _⟩

open Go.ChangeMaps (open_string shut_string)
theorem laidOut : laidOutB Try.prog = true := by kernel_rfl
theorem own : ownKnob Try.prog.godebug = none := by kernel_rfl
set_option maxRecDepth 100000 in
/-- What the walk gives, for every argument. -/
theorem contract (H : Type) (enc : TypeId × Value → H) (W : World) (base : Nat) (args : Array Value) (ds gs : List (DataW H)) (before : List MemPlace)
    (hval : ∀ (j : Nat) t v, Try.f6.params[j]? = some t → args[j]? = some v → Value.okWide Try.prog W .any base t v)
    (hW : DataW.Whole enc Try.prog Try.f6.params.toList Rows.fnByRootSpec.vars false W args.toList ds gs before) :
    Calls Try.prog 6 args W fun e W' => ∃ v, e = .returned v ∧ Rows.fnByRootSpec.post enc Try.prog Try.f6 false true false false W args v W' := by
  have hW' := hW
  obtain ⟨p, q, hA0, hV, rfl, hfz, hnd⟩ := hW
  have hA : DataW.TrodAll enc Try.prog W 0 (fun _ => true) true Try.f6.params.toList args.toList ds p := hA0
  rw [Try.params6] at hA hval
  obtain ⟨v0, vs0, d0, ds0, p0, q0, hargs, rfl, rfl, h0, r0⟩ := trodAll_cons hA
  obtain ⟨rfl, rfl, rfl⟩ := trodAll_nil r0
  obtain rfl : args = #[v0] := by cases args; simp_all
  obtain ⟨rfl, rfl⟩ := trodVars_none hV
  obtain ⟨ca, cl, cc, rfl⟩ := okWide_slice Try.underlying22 (hval 0 22 v0 rfl rfl)
  have k0 := h0
  have lt0 : ∀ x ∈ p0, x.block < W.heap.size := by obtain ⟨m, hm⟩ := k0; exact DataW.trod_lt m _ _ _ hm
  have ch : (cl ≤ 1048576 → CodeAt W W.heap.size ca cl) ∧ cl ≤ maxLen ∧ cl ≤ cc := by
    obtain ⟨fuel, hf⟩ := h0
    rcases open_ints Try.underlying22 Try.underlying5 (by kernel_rfl) hf with ⟨hcs, _⟩ | ⟨x, l, c, zs, hcs, _, hl, hm, hz, _, hcell, hwz⟩
    · simp [Value.cells] at hcs
      obtain ⟨rfl, rfl, rfl⟩ := hcs
      exact ⟨fun _ => ⟨by omega, fun h => absurd h (by omega)⟩, Nat.zero_le _, Nat.le_refl _⟩
    · simp [Value.cells] at hcs
      obtain ⟨rfl, rfl, rfl⟩ := hcs
      have hz2 : zs.length = cc := by simpa using hz
      exact ⟨fun hs => code_of hs (by omega) hcell hwz, by omega, hl⟩
  clear hA0
  simp only [List.append_nil] at hW'
  refine (walk ca cl cc W ch.2.1 ch.2.2 ch.1).mono fun e W' ⟨he, hg⟩ => ?_
  subst he
  exact ⟨_, rfl, _, _, _, [], _, [], hW', trodAll_mk1 (shut_bool Try.underlying4 _), (trodAll_cons_mk (Below.trod laidOut (by kernel_rfl) (of_decide_eq_true (by kernel_rfl)) k0 hg lt0) trodAll_mk0), rfl, hg.frame _, fun h => by cases h⟩

set_option maxRecDepth 100000 in
theorem lifted (os : Os) (started : os.Started) (H : Type) (enc : TypeId × Value → H) :
    ReturnsInHanded {} Try.checked os 6 .any (Rows.fnByRootSpec.pre6 enc Try.prog Try.f6 Rows.fnByRootRow.domain false) (Rows.fnByRootSpec.post enc Try.prog Try.f6 false true false false) := by
  refine returnsInHanded_of_change (C := Try.checked) own started (by kernel_rfl) Try.func6
    (ChangeSpec.witness6 (enc := enc) (C := Try.checked) false ⟨#[], #[.slice none 0 0], []⟩ 8 (by kernel_rfl) (by kernel_rfl) (by kernel_rfl) (by kernel_rfl)) ?_
  intro W base args ds gs before hval hW _ _
  exact contract H enc W base args ds gs before hval hW
theorem said : Rows.FnByRootSaid :=
  OpenClaim.holds_of_wide 6 Try.f6 rfl rfl rfl rfl rfl rfl rfl ⟨rfl, rfl, rfl, rfl, rfl⟩ rfl rfl rfl rfl rfl (by kernel_rfl) Try.func6 (by kernel_rfl)
    (of_decide_eq_true (by kernel_rfl)) (by unfold Func.isWrapper; first | (rw [if_pos (by decide +kernel)]; kernel_rfl) | (rw [if_neg (by decide +kernel)]; exact ⟨rfl, rfl⟩))
    (fun os started H enc _ => lifted os started H enc)
end Go.Proofs.Ytiejaciofgiffaa.fnByRoot
