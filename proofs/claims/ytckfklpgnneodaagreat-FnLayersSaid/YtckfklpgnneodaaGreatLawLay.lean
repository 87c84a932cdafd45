/- The law FnLayers: the layers contain the same operation, and no layer uses a qubit twice, at every code. No condition. -/
import Derived.Test.YtckfklpgnneodaaGreatInit
import Derived.Test.YtckfklpgnneodaaGreatLyL
import Derived.Test.YtckfklpgnneodaaGreatLyD
import Derived.Test.YtckfklpgnneodaaGreatLyKf
import Derived.Test.YtckfklpgnneodaaGreatLyKl
import Derived.Test.YtckfklpgnneodaaGreatBaseB18
import Derived.Test.YtckfklpgnneodaaGreatBaseB10
import Derived.Test.YtckfklpgnneodaaGreatBaseB08
import Derived.Test.YtckfklpgnneodaaGreatBaseB12
import Derived.Test.YtckfklpgnneodaaGreatBaseB11
import Derived.Lib.SmallJoins
import Derived.WalkKit
import Derived.ProofKit
import Derived.OpenShut
import Derived.Deep.DeepHandedRow
import Derived.Lib.LaidTab
import Derived.LaidMore
import Derived.LaidHandle
import Derived.Lay
import Derived.Stop.LaidErr
namespace Go.Proofs.YtckfklpgnneodaaGreat.fnLayers
open Go.ChangeShapes Go.WideShapes Go.ChangeAt Go.RowKit Go.Lib
attribute [local irreducible] World.cell?
set_option maxRecDepth 100000 in
set_option maxHeartbeats 12800000 in
theorem core (a0 : Option Addr) (len cap : Nat) (hs : len ≤ 1048576) (_ : len ≤ cap) (w : World) (hcode : CodeAt w w.heap.size a0 len) :
    Calls Tryz.prog 3 #[.slice a0 len cap] w fun e w' => e = .returned (.bool true) ∧ Below w.heap.size w w' := by
  have Hc := Lib.hid hcode
  have Hb := Lib.hid (Below.refl w.heap.size w)
  clear hcode
  go_enter Tryz.func3, Tryz.ntmps3
  go_wp2_with (go_at_call 4; go_in)
  refine (drawCircuitLayers a0 len cap _ Hc.out).mono ?_
  rintro e w1 ⟨⟨n, vc0, L, rfl, hci, hd1⟩, hb1⟩
  obtain ⟨pc0, qc0, rfl, -, -⟩ := id hd1
  have Hc0 := Lib.hid hd1.upto
  have Hc0 := Lib.hid (Hc0.out.below ((Below.refl _ _).alloc (Nat.le_refl _) (.cells #[.int .i64 n, .slice pc0 L.length qc0] 26)))
  have hy1 := hb1.size
  have hb1 := hb1.alloc hb1.size (.cells #[.int .i64 n, .slice pc0 L.length qc0] 26)
  have Hb := Lib.hid (below_nx Hb.out hb1)
  have hz1 := hb1.size
  simp only [size_alloc1] at hz1
  have ha1 := size_alloc1 w1 (.cells #[.int .i64 n, .slice pc0 L.length qc0] 26)
  have HBc := Lib.hid (heap_alloc_new w1 (.cells #[.int .i64 n, .slice pc0 L.length qc0] 26))
  clear hb1 hd1
  obtain ⟨bc0, bc1⟩ := blk_cells2 HBc.out
  have bcl := lt_of_block HBc.out
  have hln : L.length ≤ 61 := hci.2.1
  have n0 : -9223372036854775808 ≤ n := by have := hci.1; omega
  have n1 : n ≤ 9223372036854775807 := by have := hci.1; omega
  have HU := Lib.hid (fun h => law_layers (Nat.le_refl 12) hci h)
  have HU0 := Lib.hid (fun h => law_layers_no (n := n) (L := L) h)
  obtain ⟨hA1, hA2⟩ := lysM_amps n L
  have hfl : (lysM n L).flatten.length ≤ 61 := by rw [show (lysM n L).flatten.length = ampsG (lysM n L) by simp [ampsG]]; omega
  have Hly := Lib.hid (fun W B v (h : gtE.Sl W B v L) => ilayers B n v L W h (by omega) n0 n1)
  have Hdp := Lib.hid (fun W B v (h : gtE.Sl W B v L) => idepth B n v L W h (by omega) n0 n1)
  have Hsd := Lib.hid (fun W B v (h : gtE.Sl W B v L) => sdepth B n v L W h (by omega))
  have Hsv := Lib.hid (fun W B v (h : gtE.Sl W B v L) => svalidC B n v L W h (by omega))
  have Hfr := Lib.hid (fun W B C v (h : GSM W B C v (lysM n L)) => icfrom B C n v (lysM n L) W h (by omega) (by omega) n0 n1)
  have Hca := Lib.hid (fun W B v (h : gtE.Sl W B v L) => scirc B n v L W h (by omega))
  obtain ⟨hM1, hM2⟩ := ccM_amps n L
  have hRl : (cfL n (lysM n L)).length ≤ 61 := by unfold cfL; split <;> first | exact hfl | simp
  have Hcb := Lib.hid (fun W B v (h : gtE.Sl W B v (cfL n (lysM n L))) => icirc B n v (cfL n (lysM n L)) W h (by omega) n0 n1)
  clear hfl hA2
  generalize cfL n (lysM n L) = R at *
  generalize cfN n (lysM n L) = m at *
  generalize cfB n (lysM n L) = okb at *
  generalize lysM n L = M at *
  generalize ccM n L = MA at *
  generalize ccB n L = ta at *
  generalize ciB n L = tv at *
  have HeqM := Lib.hid (fun W A B C D v u (h1 : DSM W A B v MA) (h2 : DSM W C D u MA) => sequalMt A B C D v u MA MA W h1 h2 hM1 hM1 hM2 hM2)
  simp only [decide_true] at HeqM
  clear n0 n1 hci
  go_wp2_with fail
  refine (Hly.out _ _ _ Hc0.out.sl).mono ?_
  rintro e w2 ⟨⟨vl, rfl, hd2⟩, hb2⟩
  have Hl0 := Lib.hid hd2
  have Hc0 := Lib.hid (Hc0.out.below hb2)
  have Hb := Lib.hid (below_nx Hb.out hb2)
  have hz2 := hb2.size
  simp only [size_alloc1] at hz2
  have HBc := Lib.hid (below_blk hb2 (lt_of_block HBc.out) HBc.out)
  clear hb2 hd2
  clear bc0 bc1 bcl
  obtain ⟨bc0, bc1⟩ := blk_cells2 HBc.out
  have bcl := lt_of_block HBc.out
  obtain ⟨pl0, ql0, rfl, -, -⟩ := id Hl0.out
  go_wp2_with fail
  refine (Hfr.out _ _ _ _ Hl0.out).mono ?_
  rintro e w3 ⟨⟨vd, rfl, hd3⟩, hb3⟩
  obtain ⟨pd0, qd0, rfl, -, -⟩ := id hd3
  have Hd0 := Lib.hid hd3.upto
  have Hd0 := Lib.hid (Hd0.out.below ((Below.refl _ _).alloc (Nat.le_refl _) (.cells #[.int .i64 m, .slice pd0 R.length qd0] 26)))
  have hy3 := hb3.size
  have hb3 := hb3.alloc hb3.size (.cells #[.int .i64 m, .slice pd0 R.length qd0] 26)
  have Hc0 := Lib.hid (Hc0.out.below hb3)
  have Hl0 := Lib.hid (Hl0.out.below hb3)
  have Hb := Lib.hid (below_nx Hb.out hb3)
  have hz3 := hb3.size
  simp only [size_alloc1] at hz3
  have ha3 := size_alloc1 w3 (.cells #[.int .i64 m, .slice pd0 R.length qd0] 26)
  have HBc := Lib.hid (below_blk hb3 (lt_of_block HBc.out) HBc.out)
  have HBd := Lib.hid (heap_alloc_new w3 (.cells #[.int .i64 m, .slice pd0 R.length qd0] 26))
  clear hb3 hd3
  clear bc0 bc1 bcl
  obtain ⟨bc0, bc1⟩ := blk_cells2 HBc.out
  have bcl := lt_of_block HBc.out
  obtain ⟨bd0, bd1⟩ := blk_cells2 HBd.out
  have bdl := lt_of_block HBd.out
  go_wp2_with fail
  refine (Hsv.out _ _ _ Hc0.out.sl).mono ?_
  rintro e w4 ⟨rfl, hb4⟩
  have Hc0 := Lib.hid (Hc0.out.below hb4)
  have Hl0 := Lib.hid (Hl0.out.below hb4)
  have Hd0 := Lib.hid (Hd0.out.below hb4)
  have Hb := Lib.hid (below_nx Hb.out hb4)
  have hz4 := hb4.size
  simp only [size_alloc1] at hz4
  have HBc := Lib.hid (below_blk hb4 (lt_of_block HBc.out) HBc.out)
  have HBd := Lib.hid (below_blk hb4 (lt_of_block HBd.out) HBd.out)
  clear hb4
  clear bc0 bc1 bcl
  obtain ⟨bc0, bc1⟩ := blk_cells2 HBc.out
  have bcl := lt_of_block HBc.out
  clear bd0 bd1 bdl
  obtain ⟨bd0, bd1⟩ := blk_cells2 HBd.out
  have bdl := lt_of_block HBd.out
  cases tv with
  | false =>
    obtain rfl : M = [] := HU0.out (by trivial)
    clear HU HU0 Hfr Hcb Hca HeqM
    go_wp2_with fail
    refine (Hdp.out _ _ _ Hc0.out.sl).mono ?_
    rintro e w5 ⟨rfl, hb5⟩
    have Hc0 := Lib.hid (Hc0.out.below hb5)
    have Hl0 := Lib.hid (Hl0.out.below hb5)
    have Hd0 := Lib.hid (Hd0.out.below hb5)
    have Hb := Lib.hid (below_nx Hb.out hb5)
    have hz5 := hb5.size
    have HBc := Lib.hid (below_blk hb5 (lt_of_block HBc.out) HBc.out)
    have HBd := Lib.hid (below_blk hb5 (lt_of_block HBd.out) HBd.out)
    clear hb5
    clear bc0 bc1 bcl
    obtain ⟨bc0, bc1⟩ := blk_cells2 HBc.out
    have bcl := lt_of_block HBc.out
    clear bd0 bd1 bdl
    obtain ⟨bd0, bd1⟩ := blk_cells2 HBd.out
    have bdl := lt_of_block HBd.out
    go_wp2_with fail
    go_ret
    exact ⟨rfl, Hb.out⟩
  | true =>
    obtain ⟨rfl, hmn, hRL, rfl, hcb, hcm⟩ := HU.out (by trivial)
    rw [hcb, hcm, ← hmn] at Hcb
    have hRd : ((R.length : Int) != (L.length : Int)) = false := by rw [hRL]; simp
    clear HU HU0 Hfr hcb hcm hmn hRL
    have hS : CB2 w4 w1.heap.size w3.heap.size n m (.slice pc0 L.length qc0) (.slice pd0 R.length qd0) w4 := ⟨bc0, bc1, bd0, bd1, bcl, bdl, Below.refl _ _⟩
    have Hc1 := Lib.hid (show gtE.Sc w4.drew _ _ _ L from Hc0.out)
    have HbD := Lib.hid (show Below w4.heap.size w4 w4.drew from (Below.refl _ _).drew)
    go_upto_region 8 with fail
    go_region_held3 (fun w' => w'.cell? ⟨w1.heap.size, 0, none⟩ = some (.int .i64 n) ∧ w'.cell? ⟨w1.heap.size, 1, none⟩ = some (.slice pc0 L.length qc0) ∧ w'.cell? ⟨w3.heap.size, 0, none⟩ = some (.int .i64 m) ∧ w'.cell? ⟨w3.heap.size, 1, none⟩ = some (.slice pd0 R.length qd0) ∧ w1.heap.size < w'.heap.size ∧ w3.heap.size < w'.heap.size ∧ Below w4.heap.size w4 w') (first | (show CB2 _ _ _ _ _ _ _ _; (with_reducible exact hS.drew)) | (show CB2 _ _ _ _ _ _ _ _; (with_reducible refine CB2.below ?_ hbR); first | assumption | exact ⟨by assumption, by assumption, by assumption, by assumption, by assumption, by assumption, by assumption⟩))
      (first
        | (go_at_call 9; (with_reducible refine (Hdp.out _ _ _ Hc1.out.sl).mono ?_); rintro e wR ⟨rfl, hbR⟩; have Hc1 := Lib.hid (Hc1.out.below hbR); have HbD := Lib.hid (below_nx HbD.out hbR))
        | (go_at_call 10; (with_reducible refine (Hsd.out _ _ _ Hc1.out.sl).mono ?_); rintro e wS ⟨rfl, hbR⟩; have HbD := Lib.hid (below_nx HbD.out hbR)))
    obtain ⟨w5, hw5⟩ : ∃ x, x = wS := ⟨wS, rfl⟩
    subst hw5
    have hb5 := HbD.out
    clear hS Hc1 HbD hbR hRd
    have Hc0 := Lib.hid (Hc0.out.below hb5)
    have Hl0 := Lib.hid (Hl0.out.below hb5)
    have Hd0 := Lib.hid (Hd0.out.below hb5)
    have Hb := Lib.hid (below_nx Hb.out hb5)
    have hz5 := hb5.size
    have HBc := Lib.hid (below_blk hb5 (lt_of_block HBc.out) HBc.out)
    have HBd := Lib.hid (below_blk hb5 (lt_of_block HBd.out) HBd.out)
    clear hb5
    clear bc0 bc1 bcl
    obtain ⟨bc0, bc1⟩ := blk_cells2 HBc.out
    have bcl := lt_of_block HBc.out
    clear bd0 bd1 bdl
    obtain ⟨bd0, bd1⟩ := blk_cells2 HBd.out
    have bdl := lt_of_block HBd.out
    go_wp2_with fail
    refine (Hca.out _ _ _ Hc0.out.sl).mono ?_
    rintro e w6 ⟨⟨vx, rfl, hd6⟩, hb6⟩
    have Hx0 := Lib.hid hd6
    have Hc0 := Lib.hid (Hc0.out.below hb6)
    have Hl0 := Lib.hid (Hl0.out.below hb6)
    have Hd0 := Lib.hid (Hd0.out.below hb6)
    have Hb := Lib.hid (below_nx Hb.out hb6)
    have hz6 := hb6.size
    have HBc := Lib.hid (below_blk hb6 (lt_of_block HBc.out) HBc.out)
    have HBd := Lib.hid (below_blk hb6 (lt_of_block HBd.out) HBd.out)
    clear hb6 hd6
    clear bc0 bc1 bcl
    obtain ⟨bc0, bc1⟩ := blk_cells2 HBc.out
    have bcl := lt_of_block HBc.out
    clear bd0 bd1 bdl
    obtain ⟨bd0, bd1⟩ := blk_cells2 HBd.out
    have bdl := lt_of_block HBd.out
    go_wp2_with fail
    refine (Hcb.out _ _ _ Hd0.out.sl).mono ?_
    rintro e w7 ⟨⟨vy, rfl, hd7⟩, hb7⟩
    have Hy0 := Lib.hid hd7
    have Hc0 := Lib.hid (Hc0.out.below hb7)
    have Hl0 := Lib.hid (Hl0.out.below hb7)
    have Hd0 := Lib.hid (Hd0.out.below hb7)
    have Hx0 := Lib.hid (Hx0.out.below hb7)
    have Hb := Lib.hid (below_nx Hb.out hb7)
    have hz7 := hb7.size
    have HBc := Lib.hid (below_blk hb7 (lt_of_block HBc.out) HBc.out)
    have HBd := Lib.hid (below_blk hb7 (lt_of_block HBd.out) HBd.out)
    clear hb7 hd7
    clear bc0 bc1 bcl
    obtain ⟨bc0, bc1⟩ := blk_cells2 HBc.out
    have bcl := lt_of_block HBc.out
    clear bd0 bd1 bdl
    obtain ⟨bd0, bd1⟩ := blk_cells2 HBd.out
    have bdl := lt_of_block HBd.out
    go_wp2_with fail
    refine (HeqM.out _ _ _ _ _ _ _ Hx0.out Hy0.out).mono ?_
    rintro e w8 ⟨rfl, hb8⟩
    have Hc0 := Lib.hid (Hc0.out.below hb8)
    have Hl0 := Lib.hid (Hl0.out.below hb8)
    have Hd0 := Lib.hid (Hd0.out.below hb8)
    have Hx0 := Lib.hid (Hx0.out.below hb8)
    have Hy0 := Lib.hid (Hy0.out.below hb8)
    have Hb := Lib.hid (below_nx Hb.out hb8)
    have hz8 := hb8.size
    have HBc := Lib.hid (below_blk hb8 (lt_of_block HBc.out) HBc.out)
    have HBd := Lib.hid (below_blk hb8 (lt_of_block HBd.out) HBd.out)
    clear hb8
    clear bc0 bc1 bcl
    obtain ⟨bc0, bc1⟩ := blk_cells2 HBc.out
    have bcl := lt_of_block HBc.out
    clear bd0 bd1 bdl
    obtain ⟨bd0, bd1⟩ := blk_cells2 HBd.out
    have bdl := lt_of_block HBd.out
    go_wp2_with fail
    go_ret
    exact ⟨rfl, Hb.out⟩
set_option maxRecDepth 100000 in
set_option maxHeartbeats 400000 in
theorem walk (a0 : Option Addr) (len cap : Nat) (w : World) (hm : len ≤ maxLen) (hlc : len ≤ cap) (hc : len ≤ 1048576 → CodeAt w w.heap.size a0 len) :
    Calls Tryz.prog 3 #[.slice a0 len cap] w fun e w' => e = .returned (.bool true) ∧ Below w.heap.size w w' := by
  by_cases hs : len ≤ 1048576
  · exact core a0 len cap hs hlc w (hc hs)
  · unfold maxLen at hm
    clear hc
    go_enter Tryz.func3, Tryz.ntmps3
    go_wp2_with (go_at_call 4; go_in)
    go_ret
    exact ⟨rfl, Below.refl _ _⟩
open Go.ChangeMaps (open_string shut_string)
theorem laidOut : laidOutB Tryz.prog = true := by kernel_rfl
theorem own : ownKnob Tryz.prog.godebug = none := by kernel_rfl
set_option maxRecDepth 100000 in
/-- What the walk gives, for every argument. -/
theorem contract (H : Type) (enc : TypeId × Value → H) (W : World) (base : Nat) (args : Array Value) (ds gs : List (DataW H)) (before : List MemPlace)
    (hval : ∀ (j : Nat) t v, Tryz.f3.params[j]? = some t → args[j]? = some v → Value.okWide Tryz.prog W .any base t v)
    (hW : DataW.Whole enc Tryz.prog Tryz.f3.params.toList Rows.fnLayersSpec.vars false W args.toList ds gs before) :
    Calls Tryz.prog 3 args W fun e W' => ∃ v, e = .returned v ∧ Rows.fnLayersSpec.post enc Tryz.prog Tryz.f3 false true false false W args v W' := by
  have hW' := hW
  obtain ⟨p, q, hA0, hV, rfl, hfz, hnd⟩ := hW
  have hA : DataW.TrodAll enc Tryz.prog W 0 (fun _ => true) true Tryz.f3.params.toList args.toList ds p := hA0
  rw [Tryz.params3] at hA hval
  obtain ⟨v0, vs0, d0, ds0, p0, q0, hargs, rfl, rfl, h0, r0⟩ := trodAll_cons hA
  obtain ⟨rfl, rfl, rfl⟩ := trodAll_nil r0
  obtain rfl : args = #[v0] := by cases args; simp_all
  obtain ⟨rfl, rfl⟩ := trodVars_none hV
  obtain ⟨ca, cl, cc, rfl⟩ := okWide_slice Tryz.underlying22 (hval 0 22 v0 rfl rfl)
  have k0 := h0
  have lt0 : ∀ x ∈ p0, x.block < W.heap.size := by obtain ⟨m, hm⟩ := k0; exact DataW.trod_lt m _ _ _ hm
  have ch : (cl ≤ 1048576 → CodeAt W W.heap.size ca cl) ∧ cl ≤ maxLen ∧ cl ≤ cc := by
    obtain ⟨fuel, hf⟩ := h0
    rcases open_ints Tryz.underlying22 Tryz.underlying5 (by kernel_rfl) hf with ⟨hcs, _⟩ | ⟨x, l, c, zs, hcs, _, hl, hm, hz, _, hcell, hwz⟩
    · simp [Value.cells] at hcs
      obtain ⟨rfl, rfl, rfl⟩ := hcs
      exact ⟨fun _ => ⟨by omega, fun h => absurd h (by omega)⟩, Nat.zero_le _, Nat.le_refl _⟩
    · simp [Value.cells] at hcs
      obtain ⟨rfl, rfl, rfl⟩ := hcs
      have hz2 : zs.length = cc := by simpa using hz
      exact ⟨fun hs => code_of hs (by omega) hcell hwz, by omega, hl⟩
  clear hA0
  simp only [List.append_nil] at hW'
  refine (walk ca cl cc W ch.2.1 ch.2.2 ch.1).mono fun e W' ⟨he, hg⟩ => ?_
  subst he
  exact ⟨_, rfl, _, _, _, [], _, [], hW', trodAll_mk1 (shut_bool Tryz.underlying4 _), (trodAll_cons_mk (Below.trod laidOut (by kernel_rfl) (of_decide_eq_true (by kernel_rfl)) k0 hg lt0) trodAll_mk0), rfl, hg.frame _, fun h => by cases h⟩
set_option maxRecDepth 100000 in
theorem lifted (os : Os) (started : os.Started) (H : Type) (enc : TypeId × Value → H) :
    ReturnsInHanded {} Tryz.checked os 3 .any (Rows.fnLayersSpec.pre6 enc Tryz.prog Tryz.f3 Rows.fnLayersRow.domain false) (Rows.fnLayersSpec.post enc Tryz.prog Tryz.f3 false true false false) := by
  refine returnsInHanded_of_change (C := Tryz.checked) own started (by kernel_rfl) Tryz.func3
    (ChangeSpec.witness6 (enc := enc) (C := Tryz.checked) false ⟨#[], #[.slice none 0 0], []⟩ 8 (by kernel_rfl) (by kernel_rfl) (by kernel_rfl) (by kernel_rfl)) ?_
  intro W base args ds gs before hval hW _ _
  exact contract H enc W base args ds gs before hval hW
theorem closedFacts : joinedFacts Tryz.pinned.checked.prog 3 Tryz.f3 Rows.fnLayersSpec Rows.fnLayersRow = true := by
  unfold joinedFacts
  rw [init_may, init_facts.2.1, init_facts.2.2]
  kernel_rfl
theorem said : Rows.FnLayersSaid :=
  OpenClaim.holds_of_wide 3 Tryz.f3 rfl rfl rfl rfl rfl rfl rfl ⟨rfl, rfl, rfl, rfl, rfl⟩ rfl rfl rfl rfl rfl (by kernel_rfl) Tryz.func3 closedFacts
    (of_decide_eq_true (by kernel_rfl)) (by unfold Func.isWrapper; first | (rw [if_pos (by decide +kernel)]; kernel_rfl) | (rw [if_neg (by decide +kernel)]; exact ⟨rfl, rfl⟩))
    (fun os started H enc _ => lifted os started H enc)
end Go.Proofs.YtckfklpgnneodaaGreat.fnLayers
