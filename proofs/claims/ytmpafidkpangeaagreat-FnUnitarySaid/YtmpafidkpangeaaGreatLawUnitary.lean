/- The law FnUnitary: the matrices of circuits are unitary, and IsUnitary answers as its model, at every code. No condition. -/
import Derived.Test.YtmpafidkpangeaaGreatInit
import Derived.Test.YtmpafidkpangeaaGreatBaseB17
import Derived.Test.YtmpafidkpangeaaGreatBaseB18
import Derived.Test.YtmpafidkpangeaaGreatBaseB16
import Derived.Test.YtmpafidkpangeaaGreatBaseB23
import Derived.Lib.SmallJoins
import Derived.WalkKit
import Derived.ProofKit
import Derived.OpenShut
import Derived.Deep.DeepHandedRow
import Derived.Lib.LaidTab
import Derived.LaidMore
import Derived.LaidHandle
import Derived.Lay
import Derived.Stop.LaidErr
namespace Go.Proofs.YtmpafidkpangeaaGreat.fnUnitary
open Go.ChangeShapes Go.WideShapes Go.ChangeAt Go.RowKit Go.Lib
attribute [local irreducible] World.cell?
set_option maxRecDepth 100000 in
set_option maxHeartbeats 12800000 in
theorem core (a0 : Option Addr) (len cap : Nat) (hs : len ≤ 1048576) (_ : len ≤ cap) (w : World) (hcode : CodeAt w w.heap.size a0 len) :
    Calls Tryz.prog 3 #[.slice a0 len cap] w fun e w' => e = .returned (.bool true) ∧ Below w.heap.size w w' := by
  have Hc := Lib.hid hcode
  have Hb := Lib.hid (Below.refl w.heap.size w)
  clear hcode
  go_enter Tryz.func3, Tryz.ntmps3
  go_wp2_with (go_at_call 7; go_in)
  refine (drawCircuitMatrix a0 len cap _ Hc.out).mono ?_
  rintro e w1 ⟨⟨n, vc0, L, rfl, hci, hd1⟩, hb1⟩
  obtain ⟨pc0, qc0, rfl, -, -⟩ := id hd1
  have Hc0 := Lib.hid hd1.upto
  have Hc0 := Lib.hid (Hc0.out.below ((Below.refl _ _).alloc (Nat.le_refl _) (.cells #[.int .i64 n, .slice pc0 L.length qc0] 26)))
  have hy1 := hb1.size
  have hb1 := hb1.alloc hb1.size (.cells #[.int .i64 n, .slice pc0 L.length qc0] 26)
  have Hb := Lib.hid (below_nx Hb.out hb1)
  have hz1 := hb1.size
  simp only [size_alloc1] at hz1
  have ha1 := size_alloc1 w1 (.cells #[.int .i64 n, .slice pc0 L.length qc0] 26)
  have HBc := Lib.hid (heap_alloc_new w1 (.cells #[.int .i64 n, .slice pc0 L.length qc0] 26))
  clear hb1 hd1
  obtain ⟨bc0, bc1⟩ := blk_cells2 HBc.out
  have bcl := lt_of_block HBc.out
  have hln : L.length ≤ 61 := hci.2.1
  have n0 : -9223372036854775808 ≤ n := by have := hci.1; omega
  have n1 : n ≤ 9223372036854775807 := by have := hci.1; omega
  have HU := Lib.hid (fun h => law_unitary (n := n) (L := L) hci (by omega) h)
  have Hcm := Lib.hid (fun W B v (h : gtE.Sl W B v L) => icirc B n v L W h (by omega) n0 n1)
  have Hsm := Lib.hid (fun W B v (h : gtE.Sl W B v L) => scirc B n v L W h (by omega))
  have hM1 := (ccM_amps n L).1
  have hM2 := (ccM_amps n L).2
  have hMe := ccM_eb n L
  generalize ccM n L = M at *
  generalize ccB n L = t at *
  have HeqM := Lib.hid (fun W A B C D v u (h1 : DSM W A B v M) (h2 : DSM W C D u M) => sequalMt A B C D v u M M W h1 h2 hM1 hM1 hM2 hM2)
  simp only [decide_true] at HeqM
  have Hiu := Lib.hid (fun W B C v (h : DSM W B C v M) => iuni B C v M W h hMe hM1 hM2)
  generalize uniB M = um at *
  have htt : (t != t) = false := by simp
  clear n0 n1 hci hMe
  go_wp2_with fail
  refine (Hcm.out _ _ _ Hc0.out.sl).mono ?_
  rintro e w2 ⟨⟨vm0, rfl, hd2⟩, hb2⟩
  have Hm0 := Lib.hid hd2
  have Hc0 := Lib.hid (Hc0.out.below hb2)
  have Hb := Lib.hid (below_nx Hb.out hb2)
  have hz2 := hb2.size
  simp only [size_alloc1] at hz2
  have HBc := Lib.hid (below_blk hb2 (lt_of_block HBc.out) HBc.out)
  clear hb2 hd2
  clear bc0 bc1 bcl
  obtain ⟨bc0, bc1⟩ := blk_cells2 HBc.out
  have bcl := lt_of_block HBc.out
  go_wp2_with fail
  refine (Hsm.out _ _ _ Hc0.out.sl).mono ?_
  rintro e w3 ⟨⟨vs0, rfl, hd3⟩, hb3⟩
  have Hs0 := Lib.hid hd3
  have Hc0 := Lib.hid (Hc0.out.below hb3)
  have Hm0 := Lib.hid (Hm0.out.below hb3)
  have Hb := Lib.hid (below_nx Hb.out hb3)
  have hz3 := hb3.size
  have HBc := Lib.hid (below_blk hb3 (lt_of_block HBc.out) HBc.out)
  clear hb3 hd3
  clear bc0 bc1 bcl
  obtain ⟨bc0, bc1⟩ := blk_cells2 HBc.out
  have bcl := lt_of_block HBc.out
  go_wp2_with fail
  refine (HeqM.out _ _ _ _ _ _ _ Hm0.out Hs0.out).mono ?_
  rintro e w4 ⟨rfl, hb4⟩
  have Hc0 := Lib.hid (Hc0.out.below hb4)
  have Hm0 := Lib.hid (Hm0.out.below hb4)
  have Hs0 := Lib.hid (Hs0.out.below hb4)
  have Hb := Lib.hid (below_nx Hb.out hb4)
  have hz4 := hb4.size
  have HBc := Lib.hid (below_blk hb4 (lt_of_block HBc.out) HBc.out)
  clear hb4
  clear bc0 bc1 bcl
  obtain ⟨bc0, bc1⟩ := blk_cells2 HBc.out
  have bcl := lt_of_block HBc.out
  go_wp2_with fail
  refine (drawUni a0 len cap _ ((Hc.out.below Hb.out).mono Hb.out.size)).mono ?_
  rintro e w5 ⟨⟨vx0, X, rfl, hX, hd5⟩, hb5⟩
  have Hx0 := Lib.hid hd5
  have Hc0 := Lib.hid (Hc0.out.below hb5)
  have Hm0 := Lib.hid (Hm0.out.below hb5)
  have Hs0 := Lib.hid (Hs0.out.below hb5)
  have Hb := Lib.hid (below_nx Hb.out hb5)
  have hz5 := hb5.size
  have HBc := Lib.hid (below_blk hb5 (lt_of_block HBc.out) HBc.out)
  clear hb5 hd5
  clear bc0 bc1 bcl
  obtain ⟨bc0, bc1⟩ := blk_cells2 HBc.out
  have bcl := lt_of_block HBc.out
  have hX1 : X.length ≤ 1048576 := by have := hX.1; omega
  have hX2 := hX.amps
  have hXe : EbM X := fun r hr => (hX.2 r hr).1
  have Hix := Lib.hid (fun W B C v (h : DSM W B C v X) => iuni B C v X W h hXe hX1 hX2)
  have Hsx := Lib.hid (fun W B C v (h : DSM W B C v X) => suni B C v X W h hX1 hX2)
  generalize uniB X = ux at *
  have hte : (ux == ux) = true := by simp
  clear hX hXe htt
  cases t with
  | false =>
    go_wp2_with fail
    refine (Hix.out _ _ _ _ Hx0.out).mono ?_
    rintro e w6 ⟨rfl, hb6⟩
    have Hc0 := Lib.hid (Hc0.out.below hb6)
    have Hm0 := Lib.hid (Hm0.out.below hb6)
    have Hs0 := Lib.hid (Hs0.out.below hb6)
    have Hx0 := Lib.hid (Hx0.out.below hb6)
    have Hb := Lib.hid (below_nx Hb.out hb6)
    have hz6 := hb6.size
    have HBc := Lib.hid (below_blk hb6 (lt_of_block HBc.out) HBc.out)
    clear hb6
    clear bc0 bc1 bcl
    obtain ⟨bc0, bc1⟩ := blk_cells2 HBc.out
    have bcl := lt_of_block HBc.out
    go_wp2_with fail
    refine (Hsx.out _ _ _ _ Hx0.out).mono ?_
    rintro e w7 ⟨rfl, hb7⟩
    have Hc0 := Lib.hid (Hc0.out.below hb7)
    have Hm0 := Lib.hid (Hm0.out.below hb7)
    have Hs0 := Lib.hid (Hs0.out.below hb7)
    have Hx0 := Lib.hid (Hx0.out.below hb7)
    have Hb := Lib.hid (below_nx Hb.out hb7)
    have hz7 := hb7.size
    have HBc := Lib.hid (below_blk hb7 (lt_of_block HBc.out) HBc.out)
    clear hb7
    clear bc0 bc1 bcl
    obtain ⟨bc0, bc1⟩ := blk_cells2 HBc.out
    have bcl := lt_of_block HBc.out
    go_wp2_with fail
    go_ret
    exact ⟨rfl, Hb.out⟩
  | true =>
    obtain rfl : um = true := HU.out (by trivial)
    go_wp2_with fail
    refine (Hiu.out _ _ _ _ Hm0.out).mono ?_
    rintro e w6 ⟨rfl, hb6⟩
    have Hc0 := Lib.hid (Hc0.out.below hb6)
    have Hm0 := Lib.hid (Hm0.out.below hb6)
    have Hs0 := Lib.hid (Hs0.out.below hb6)
    have Hx0 := Lib.hid (Hx0.out.below hb6)
    have Hb := Lib.hid (below_nx Hb.out hb6)
    have hz6 := hb6.size
    have HBc := Lib.hid (below_blk hb6 (lt_of_block HBc.out) HBc.out)
    clear hb6
    clear bc0 bc1 bcl
    obtain ⟨bc0, bc1⟩ := blk_cells2 HBc.out
    have bcl := lt_of_block HBc.out
    go_wp2_with fail
    refine (Hix.out _ _ _ _ Hx0.out).mono ?_
    rintro e w7 ⟨rfl, hb7⟩
    have Hc0 := Lib.hid (Hc0.out.below hb7)
    have Hm0 := Lib.hid (Hm0.out.below hb7)
    have Hs0 := Lib.hid (Hs0.out.below hb7)
    have Hx0 := Lib.hid (Hx0.out.below hb7)
    have Hb := Lib.hid (below_nx Hb.out hb7)
    have hz7 := hb7.size
    have HBc := Lib.hid (below_blk hb7 (lt_of_block HBc.out) HBc.out)
    clear hb7
    clear bc0 bc1 bcl
    obtain ⟨bc0, bc1⟩ := blk_cells2 HBc.out
    have bcl := lt_of_block HBc.out
    go_wp2_with fail
    refine (Hsx.out _ _ _ _ Hx0.out).mono ?_
    rintro e w8 ⟨rfl, hb8⟩
    have Hc0 := Lib.hid (Hc0.out.below hb8)
    have Hm0 := Lib.hid (Hm0.out.below hb8)
    have Hs0 := Lib.hid (Hs0.out.below hb8)
    have Hx0 := Lib.hid (Hx0.out.below hb8)
    have Hb := Lib.hid (below_nx Hb.out hb8)
    have hz8 := hb8.size
    have HBc := Lib.hid (below_blk hb8 (lt_of_block HBc.out) HBc.out)
    clear hb8
    clear bc0 bc1 bcl
    obtain ⟨bc0, bc1⟩ := blk_cells2 HBc.out
    have bcl := lt_of_block HBc.out
    go_wp2_with fail
    go_ret
    exact ⟨rfl, Hb.out⟩
set_option maxRecDepth 100000 in
set_option maxHeartbeats 400000 in
theorem walk (a0 : Option Addr) (len cap : Nat) (w : World) (hm : len ≤ maxLen) (hlc : len ≤ cap) (hc : len ≤ 1048576 → CodeAt w w.heap.size a0 len) :
    Calls Tryz.prog 3 #[.slice a0 len cap] w fun e w' => e = .returned (.bool true) ∧ Below w.heap.size w w' := by
  by_cases hs : len ≤ 1048576
  · exact core a0 len cap hs hlc w (hc hs)
  · unfold maxLen at hm
    clear hc
    go_enter Tryz.func3, Tryz.ntmps3
    go_wp2_with (go_at_call 7; go_in)
    go_ret
    exact ⟨rfl, Below.refl _ _⟩
open Go.ChangeMaps (open_string shut_string)
theorem laidOut : laidOutB Tryz.prog = true := by kernel_rfl
theorem own : ownKnob Tryz.prog.godebug = none := by kernel_rfl
set_option maxRecDepth 100000 in
/-- What the walk gives, for every argument. -/
theorem contract (H : Type) (enc : TypeId × Value → H) (W : World) (base : Nat) (args : Array Value) (ds gs : List (DataW H)) (before : List MemPlace)
    (hval : ∀ (j : Nat) t v, Tryz.f3.params[j]? = some t → args[j]? = some v → Value.okWide Tryz.prog W .any base t v)
    (hW : DataW.Whole enc Tryz.prog Tryz.f3.params.toList Rows.fnUnitarySpec.vars false W args.toList ds gs before) :
    Calls Tryz.prog 3 args W fun e W' => ∃ v, e = .returned v ∧ Rows.fnUnitarySpec.post enc Tryz.prog Tryz.f3 false true false false W args v W' := by
  have hW' := hW
  obtain ⟨p, q, hA0, hV, rfl, hfz, hnd⟩ := hW
  have hA : DataW.TrodAll enc Tryz.prog W 0 (fun _ => true) true Tryz.f3.params.toList args.toList ds p := hA0
  rw [Tryz.params3] at hA hval
  obtain ⟨v0, vs0, d0, ds0, p0, q0, hargs, rfl, rfl, h0, r0⟩ := trodAll_cons hA
  obtain ⟨rfl, rfl, rfl⟩ := trodAll_nil r0
  obtain rfl : args = #[v0] := by cases args; simp_all
  obtain ⟨rfl, rfl⟩ := trodVars_none hV
  obtain ⟨ca, cl, cc, rfl⟩ := okWide_slice Tryz.underlying22 (hval 0 22 v0 rfl rfl)
  have k0 := h0
  have lt0 : ∀ x ∈ p0, x.block < W.heap.size := by obtain ⟨m, hm⟩ := k0; exact DataW.trod_lt m _ _ _ hm
  have ch : (cl ≤ 1048576 → CodeAt W W.heap.size ca cl) ∧ cl ≤ maxLen ∧ cl ≤ cc := by
    obtain ⟨fuel, hf⟩ := h0
    rcases open_ints Tryz.underlying22 Tryz.underlying5 (by kernel_rfl) hf with ⟨hcs, _⟩ | ⟨x, l, c, zs, hcs, _, hl, hm, hz, _, hcell, hwz⟩
    · simp [Value.cells] at hcs
      obtain ⟨rfl, rfl, rfl⟩ := hcs
      exact ⟨fun _ => ⟨by omega, fun h => absurd h (by omega)⟩, Nat.zero_le _, Nat.le_refl _⟩
    · simp [Value.cells] at hcs
      obtain ⟨rfl, rfl, rfl⟩ := hcs
      have hz2 : zs.length = cc := by simpa using hz
      exact ⟨fun hs => code_of hs (by omega) hcell hwz, by omega, hl⟩
  clear hA0
  simp only [List.append_nil] at hW'
  refine (walk ca cl cc W ch.2.1 ch.2.2 ch.1).mono fun e W' ⟨he, hg⟩ => ?_
  subst he
  exact ⟨_, rfl, _, _, _, [], _, [], hW', trodAll_mk1 (shut_bool Tryz.underlying4 _), (trodAll_cons_mk (Below.trod laidOut (by kernel_rfl) (of_decide_eq_true (by kernel_rfl)) k0 hg lt0) trodAll_mk0), rfl, hg.frame _, fun h => by cases h⟩
set_option maxRecDepth 100000 in
theorem lifted (os : Os) (started : os.Started) (H : Type) (enc : TypeId × Value → H) :
    ReturnsInHanded {} Tryz.checked os 3 .any (Rows.fnUnitarySpec.pre6 enc Tryz.prog Tryz.f3 Rows.fnUnitaryRow.domain false) (Rows.fnUnitarySpec.post enc Tryz.prog Tryz.f3 false true false false) := by
  refine returnsInHanded_of_change (C := Tryz.checked) own started (by kernel_rfl) Tryz.func3
    (ChangeSpec.witness6 (enc := enc) (C := Tryz.checked) false ⟨#[], #[.slice none 0 0], []⟩ 8 (by kernel_rfl) (by kernel_rfl) (by kernel_rfl) (by kernel_rfl)) ?_
  intro W base args ds gs before hval hW _ _
  exact contract H enc W base args ds gs before hval hW
theorem closedFacts : joinedFacts Tryz.pinned.checked.prog 3 Tryz.f3 Rows.fnUnitarySpec Rows.fnUnitaryRow = true := by
  unfold joinedFacts
  rw [init_may, init_facts.2.1, init_facts.2.2]
  kernel_rfl
theorem said : Rows.FnUnitarySaid :=
  OpenClaim.holds_of_wide 3 Tryz.f3 rfl rfl rfl rfl rfl rfl rfl ⟨rfl, rfl, rfl, rfl, rfl⟩ rfl rfl rfl rfl rfl (by kernel_rfl) Tryz.func3 closedFacts
    (of_decide_eq_true (by kernel_rfl)) (by unfold Func.isWrapper; first | (rw [if_pos (by decide +kernel)]; kernel_rfl) | (rw [if_neg (by decide +kernel)]; exact ⟨rfl, rfl⟩))
    (fun os started H enc _ => lifted os started H enc)
end Go.Proofs.YtmpafidkpangeaaGreat.fnUnitary
