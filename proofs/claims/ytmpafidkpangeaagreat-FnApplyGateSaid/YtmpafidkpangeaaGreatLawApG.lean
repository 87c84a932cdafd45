/- The law FnApplyGate: a gate followed by its inverse is the identity, and ApplyGate agrees with GateMatrix, at every code. No condition. -/
import Derived.Test.YtmpafidkpangeaaGreatInit
import Derived.Test.YtmpafidkpangeaaGreatBaseB17
import Derived.Test.YtmpafidkpangeaaGreatBaseB24
import Derived.Test.YtmpafidkpangeaaGreatBaseB16
import Derived.Test.YtmpafidkpangeaaGreatBaseB23
import Derived.Test.YtmpafidkpangeaaGreatBaseB06
import Derived.Test.YtmpafidkpangeaaGreatBaseB25
import Derived.Lib.SmallJoins
import Derived.WalkKit
import Derived.ProofKit
import Derived.OpenShut
import Derived.Deep.DeepHandedRow
import Derived.Lib.LaidTab
import Derived.LaidMore
import Derived.LaidHandle
import Derived.Lay
import Derived.Stop.LaidErr
namespace Go.Proofs.YtmpafidkpangeaaGreat.fnApplyGate
open Go.ChangeShapes Go.WideShapes Go.ChangeAt Go.RowKit Go.Lib
attribute [local irreducible] World.cell?
set_option maxRecDepth 100000 in
set_option maxHeartbeats 6400000 in
theorem core (a0 : Option Addr) (len cap : Nat) (hs : len ≤ 1048576) (_ : len ≤ cap) (w : World) (hcode : CodeAt w w.heap.size a0 len) :
    Calls Tryz.prog 4 #[.slice a0 len cap] w fun e w' => e = .returned (.bool true) ∧ Below w.heap.size w w' := by
  have Hc := Lib.hid hcode
  have Hb := Lib.hid (Below.refl w.heap.size w)
  clear hcode
  go_enter Tryz.func4, Tryz.ntmps4
  go_wp2_with (go_at_call 7; go_in)
  refine (drawAg a0 len cap _ Hc.out).mono ?_
  rintro e w1 ⟨⟨g, v, l, rfl, -, hl8, hEl, hdv⟩, hb1⟩
  have hnl : l.length ≤ 1048576 := by omega
  have hq := qc_range l.length
  have hlV := agV_len g l
  have hnV : (agV g l).length ≤ 1048576 := by omega
  have hEV : Eb (agV g l) := fun x hx => ok_eb (agV_oks g l x hx)
  have hEM := gmM_eb g (qc l.length)
  have hMa := gmM_amps g (qc l.length)
  have Hq := Lib.hid (fun p c W => squbits p l.length c W)
  have Hag := Lib.hid (fun W B u (h : DSl W B u l) => iapG B g u l W h hEl hnl)
  have Hsg := Lib.hid (fun W B u (h : DSl W B u l) => sapG B g u l W h hnl)
  have Hiv := Lib.hid (fun W => iinvG g W)
  have Hbk := Lib.hid (fun W B u (h : DSl W B u (agV g l)) => iapG B (invG g) u (agV g l) W h hEV hnV)
  have Hmt := Lib.hid (fun W => imatG g (qc l.length) W (by omega) (by omega))
  have Hap := Lib.hid (fun W B C D m u (h1 : DSM W B C m (gmM g (qc l.length))) (h2 : DSl W D u l) => iapply B C D m u (gmM g (qc l.length)) l W h1 h2 hEM hEl hMa.1 hnl hMa.2)
  have hno : agB g l = false → agV g l = [] := fun h => agV_none h
  have hfine : agB (invG g) (agV g l) = true → agB g l = true → agV (invG g) (agV g l) = l := fun h k => ag_backV k h
  have hone : appB (gmM g (qc l.length)) l = true → agB g l = true → appL (gmM g (qc l.length)) l = agV g l := fun h k => gm_appV k h
  have hright : agB g l = true → gtB g (qc l.length) = true := fun k => agB_valid k
  generalize agV (invG g) (agV g l) = bk at *
  generalize agB (invG g) (agV g l) = fine at *
  generalize appL (gmM g (qc l.length)) l = y at *
  generalize appB (gmM g (qc l.length)) l = one at *
  generalize gmM g (qc l.length) = M at *
  generalize gtB g (qc l.length) = right at *
  generalize agV g l = u at *
  generalize agB g l = ok at *
  generalize qc l.length = n at *
  have Hel := Lib.hid (fun W B C a b (h1 : DSl W B a l) (h2 : DSl W C b l) => sequalSt B C a b l l W h1 h2 hnl hnl)
  rw [decide_eq_true (rfl : l = l)] at Hel
  have Heu := Lib.hid (fun W B C a b (h1 : DSl W B a u) (h2 : DSl W C b u) => sequalSt B C a b u u W h1 h2 hnV hnV)
  rw [decide_eq_true (rfl : u = u)] at Heu
  have Hno := Lib.hid hno
  have Hfine := Lib.hid hfine
  have Hone := Lib.hid hone
  have Hright := Lib.hid hright
  clear hno hfine hone hright hEl hEV hEM hMa hq
  have HXg := Lib.hid (heap_alloc_new w1 (.cells #[.int .i64 g.k, .int .i64 g.a, .int .i64 g.b, .int .i64 g.c] 35))
  have Hv := Lib.hid (hdv.below (w' := w1.alloc (.cells #[.int .i64 g.k, .int .i64 g.a, .int .i64 g.b, .int .i64 g.c] 35)) ((Below.refl _ _).alloc (Nat.le_refl _) _))
  have Hb := Lib.hid (hb1.alloc hb1.size (.cells #[.int .i64 g.k, .int .i64 g.a, .int .i64 g.b, .int .i64 g.c] 35))
  obtain ⟨c0, c1, c2, c3⟩ := blk_cells HXg.out
  have hxl := lt_of_block HXg.out
  obtain ⟨pv, cv, rfl, hcv, -⟩ := id hdv
  clear hdv hb1
  go_wp2_with fail
  refine (Hag.out _ _ _ Hv.out).mono ?_
  rintro e w2 ⟨⟨vu, rfl, hd2⟩, hb2⟩
  have Hu := Lib.hid hd2
  have Hv := Lib.hid (Hv.out.below hb2)
  have Hb := Lib.hid (below_nx Hb.out hb2)
  have hz2 := hb2.size
  have HXg := Lib.hid (below_blk hb2 (lt_of_block HXg.out) HXg.out)
  clear hb2 hd2
  clear c0 c1 c2 c3 hxl
  obtain ⟨c0, c1, c2, c3⟩ := blk_cells HXg.out
  have hxl := lt_of_block HXg.out
  go_wp2_with fail
  refine (Hsg.out _ _ _ Hv.out).mono ?_
  rintro e w3 ⟨⟨vs, rfl, hd3⟩, hb3⟩
  have Hs := Lib.hid hd3
  have Hv := Lib.hid (Hv.out.below hb3)
  have Hu := Lib.hid (Hu.out.below hb3)
  have Hb := Lib.hid (below_nx Hb.out hb3)
  have hz3 := hb3.size
  have HXg := Lib.hid (below_blk hb3 (lt_of_block HXg.out) HXg.out)
  clear hb3 hd3
  clear c0 c1 c2 c3 hxl
  obtain ⟨c0, c1, c2, c3⟩ := blk_cells HXg.out
  have hxl := lt_of_block HXg.out
  cases ok with
  | false =>
    obtain rfl : u = [] := Hno.out rfl
    obtain ⟨pu, cu, rfl, -, -⟩ := id Hu.out
    go_wp2_with fail
    refine (Heu.out _ _ _ _ _ Hu.out Hs.out).mono ?_
    rintro e w4 ⟨rfl, hb4⟩
    have Hv := Lib.hid (Hv.out.below hb4)
    have Hu := Lib.hid (Hu.out.below hb4)
    have Hs := Lib.hid (Hs.out.below hb4)
    have Hb := Lib.hid (below_nx Hb.out hb4)
    have hz4 := hb4.size
    have HXg := Lib.hid (below_blk hb4 (lt_of_block HXg.out) HXg.out)
    clear hb4
    clear c0 c1 c2 c3 hxl
    obtain ⟨c0, c1, c2, c3⟩ := blk_cells HXg.out
    have hxl := lt_of_block HXg.out
    go_wp2_with fail
    go_ret
    exact ⟨rfl, Hb.out⟩
  | true =>
    obtain rfl : right = true := Hright.out rfl
    go_wp2_with fail
    refine (Heu.out _ _ _ _ _ Hu.out Hs.out).mono ?_
    rintro e w5 ⟨rfl, hb5⟩
    have Hv := Lib.hid (Hv.out.below hb5)
    have Hu := Lib.hid (Hu.out.below hb5)
    have Hs := Lib.hid (Hs.out.below hb5)
    have Hb := Lib.hid (below_nx Hb.out hb5)
    have hz5 := hb5.size
    have HXg := Lib.hid (below_blk hb5 (lt_of_block HXg.out) HXg.out)
    clear hb5
    clear c0 c1 c2 c3 hxl
    obtain ⟨c0, c1, c2, c3⟩ := blk_cells HXg.out
    have hxl := lt_of_block HXg.out
    go_wp2_with fail
    refine (Hiv.out _).mono ?_
    rintro e w6 ⟨rfl, hb6⟩
    have Hv := Lib.hid (Hv.out.below hb6)
    have Hu := Lib.hid (Hu.out.below hb6)
    have Hb := Lib.hid (below_nx Hb.out hb6)
    have hz6 := hb6.size
    have HXg := Lib.hid (below_blk hb6 (lt_of_block HXg.out) HXg.out)
    clear hb6
    clear c0 c1 c2 c3 hxl
    obtain ⟨c0, c1, c2, c3⟩ := blk_cells HXg.out
    have hxl := lt_of_block HXg.out
    go_wp2_with fail
    refine (Hbk.out _ _ _ Hu.out).mono ?_
    rintro e w7 ⟨⟨vb, rfl, hd7⟩, hb7⟩
    have Hk := Lib.hid hd7
    have Hv := Lib.hid (Hv.out.below hb7)
    have Hu := Lib.hid (Hu.out.below hb7)
    have Hb := Lib.hid (below_nx Hb.out hb7)
    have hz7 := hb7.size
    have HXg := Lib.hid (below_blk hb7 (lt_of_block HXg.out) HXg.out)
    clear hb7 hd7
    clear c0 c1 c2 c3 hxl
    obtain ⟨c0, c1, c2, c3⟩ := blk_cells HXg.out
    have hxl := lt_of_block HXg.out
    have hS : G1 w7 w1.heap.size g w7 := ⟨c0, c1, c2, c3, hxl, Below.refl _ _⟩
    go_upto_region 11 with fail
    go_region_held3 (fun w' => w'.cell? ⟨w1.heap.size, 0, none⟩ = some (.int .i64 g.k) ∧ w'.cell? ⟨w1.heap.size, 1, none⟩ = some (.int .i64 g.a) ∧ w'.cell? ⟨w1.heap.size, 2, none⟩ = some (.int .i64 g.b) ∧ w'.cell? ⟨w1.heap.size, 3, none⟩ = some (.int .i64 g.c) ∧ w1.heap.size < w'.heap.size ∧ Below w7.heap.size w7 w') (first | (show G1 _ _ g _; (with_reducible exact hS.drew)) | (show G1 _ _ g _; (with_reducible refine G1.below ?_ hbR); first | assumption | exact ⟨by assumption, by assumption, by assumption, by assumption, by assumption, by assumption⟩))
      (first
        | (go_at_call 21; refine (Hq.out _ _ _).mono ?_; rintro e wR ⟨rfl, rfl⟩)
        | (go_at_call 20; refine (Hmt.out _).mono ?_; rintro e wM ⟨⟨vm, rfl, hdm⟩, hbR⟩; have HbM := Lib.hid hbR; have Hm := Lib.hid hdm))
    all_goals
      have HbM := Lib.hid (show Below w7.heap.size w7 wM from (Below.refl _ _).drew.trans HbM.out)
      have Hv := Lib.hid (Hv.out.below HbM.out)
      have Hu := Lib.hid (Hu.out.below HbM.out)
      have Hk := Lib.hid (Hk.out.below HbM.out)
      have Hb := Lib.hid (below_nx Hb.out HbM.out)
      clear hS c0 c1 c2 c3 hxl HXg HbM
      go_wp2_with fail
      refine (Hap.out _ _ _ _ _ _ Hm.out Hv.out).mono ?_
      rintro e w18 ⟨⟨vy, rfl, hd18⟩, hb18⟩
      have Hy := Lib.hid hd18
      have Hv := Lib.hid (Hv.out.below hb18)
      have Hu := Lib.hid (Hu.out.below hb18)
      have Hk := Lib.hid (Hk.out.below hb18)
      have Hb := Lib.hid (below_nx Hb.out hb18)
      have hz18 := hb18.size
      clear hb18 hd18
      cases fine with
      | false =>
        cases one with
        | false =>
          go_wp2_with fail
          go_ret
          exact ⟨rfl, Hb.out⟩
        | true =>
          have hy := Hone.out (by simp) (by simp)
          rw [hy] at Hy
          go_wp2_with fail
          refine (Heu.out _ _ _ _ _ Hy.out Hu.out).mono ?_
          rintro e wE ⟨rfl, hbE⟩
          have Hb := Lib.hid (below_nx Hb.out hbE)
          clear hbE
          go_wp2_with fail
          go_ret
          exact ⟨rfl, Hb.out⟩
      | true =>
        have hk := Hfine.out (by simp) (by simp)
        rw [hk] at Hk
        cases one with
        | false =>
          go_wp2_with fail
          refine (Hel.out _ _ _ _ _ Hk.out Hv.out).mono ?_
          rintro e wE ⟨rfl, hbE⟩
          have Hb := Lib.hid (below_nx Hb.out hbE)
          clear hbE
          go_wp2_with fail
          go_ret
          exact ⟨rfl, Hb.out⟩
        | true =>
          have hy := Hone.out (by simp) (by simp)
          rw [hy] at Hy
          go_wp2_with fail
          refine (Hel.out _ _ _ _ _ Hk.out Hv.out).mono ?_
          rintro e wE ⟨rfl, hbE⟩
          have Hu := Lib.hid (Hu.out.below hbE)
          have Hy := Lib.hid (Hy.out.below hbE)
          have Hb := Lib.hid (below_nx Hb.out hbE)
          clear hbE
          go_wp2_with fail
          refine (Heu.out _ _ _ _ _ Hy.out Hu.out).mono ?_
          rintro e wF ⟨rfl, hbF⟩
          have Hb := Lib.hid (below_nx Hb.out hbF)
          clear hbF
          go_wp2_with fail
          go_ret
          exact ⟨rfl, Hb.out⟩
set_option maxRecDepth 100000 in
set_option maxHeartbeats 400000 in
theorem walk (a0 : Option Addr) (len cap : Nat) (w : World) (hm : len ≤ maxLen) (hlc : len ≤ cap) (hc : len ≤ 1048576 → CodeAt w w.heap.size a0 len) :
    Calls Tryz.prog 4 #[.slice a0 len cap] w fun e w' => e = .returned (.bool true) ∧ Below w.heap.size w w' := by
  by_cases hs : len ≤ 1048576
  · exact core a0 len cap hs hlc w (hc hs)
  · unfold maxLen at hm
    clear hc
    go_enter Tryz.func4, Tryz.ntmps4
    go_wp2_with (go_at_call 7; go_in)
    go_ret
    exact ⟨rfl, Below.refl _ _⟩
open Go.ChangeMaps (open_string shut_string)
theorem laidOut : laidOutB Tryz.prog = true := by kernel_rfl
theorem own : ownKnob Tryz.prog.godebug = none := by kernel_rfl
set_option maxRecDepth 100000 in
/-- What the walk gives, for every argument. -/
theorem contract (H : Type) (enc : TypeId × Value → H) (W : World) (base : Nat) (args : Array Value) (ds gs : List (DataW H)) (before : List MemPlace)
    (hval : ∀ (j : Nat) t v, Tryz.f4.params[j]? = some t → args[j]? = some v → Value.okWide Tryz.prog W .any base t v)
    (hW : DataW.Whole enc Tryz.prog Tryz.f4.params.toList Rows.fnApplyGateSpec.vars false W args.toList ds gs before) :
    Calls Tryz.prog 4 args W fun e W' => ∃ v, e = .returned v ∧ Rows.fnApplyGateSpec.post enc Tryz.prog Tryz.f4 false true false false W args v W' := by
  have hW' := hW
  obtain ⟨p, q, hA0, hV, rfl, hfz, hnd⟩ := hW
  have hA : DataW.TrodAll enc Tryz.prog W 0 (fun _ => true) true Tryz.f4.params.toList args.toList ds p := hA0
  rw [Tryz.params4] at hA hval
  obtain ⟨v0, vs0, d0, ds0, p0, q0, hargs, rfl, rfl, h0, r0⟩ := trodAll_cons hA
  obtain ⟨rfl, rfl, rfl⟩ := trodAll_nil r0
  obtain rfl : args = #[v0] := by cases args; simp_all
  obtain ⟨rfl, rfl⟩ := trodVars_none hV
  obtain ⟨ca, cl, cc, rfl⟩ := okWide_slice Tryz.underlying22 (hval 0 22 v0 rfl rfl)
  have k0 := h0
  have lt0 : ∀ x ∈ p0, x.block < W.heap.size := by obtain ⟨m, hm⟩ := k0; exact DataW.trod_lt m _ _ _ hm
  have ch : (cl ≤ 1048576 → CodeAt W W.heap.size ca cl) ∧ cl ≤ maxLen ∧ cl ≤ cc := by
    obtain ⟨fuel, hf⟩ := h0
    rcases open_ints Tryz.underlying22 Tryz.underlying5 (by kernel_rfl) hf with ⟨hcs, _⟩ | ⟨x, l, c, zs, hcs, _, hl, hm, hz, _, hcell, hwz⟩
    · simp [Value.cells] at hcs
      obtain ⟨rfl, rfl, rfl⟩ := hcs
      exact ⟨fun _ => ⟨by omega, fun h => absurd h (by omega)⟩, Nat.zero_le _, Nat.le_refl _⟩
    · simp [Value.cells] at hcs
      obtain ⟨rfl, rfl, rfl⟩ := hcs
      have hz2 : zs.length = cc := by simpa using hz
      exact ⟨fun hs => code_of hs (by omega) hcell hwz, by omega, hl⟩
  clear hA0
  simp only [List.append_nil] at hW'
  refine (walk ca cl cc W ch.2.1 ch.2.2 ch.1).mono fun e W' ⟨he, hg⟩ => ?_
  subst he
  exact ⟨_, rfl, _, _, _, [], _, [], hW', trodAll_mk1 (shut_bool Tryz.underlying4 _), (trodAll_cons_mk (Below.trod laidOut (by kernel_rfl) (of_decide_eq_true (by kernel_rfl)) k0 hg lt0) trodAll_mk0), rfl, hg.frame _, fun h => by cases h⟩
set_option maxRecDepth 100000 in
theorem lifted (os : Os) (started : os.Started) (H : Type) (enc : TypeId × Value → H) :
    ReturnsInHanded {} Tryz.checked os 4 .any (Rows.fnApplyGateSpec.pre6 enc Tryz.prog Tryz.f4 Rows.fnApplyGateRow.domain false) (Rows.fnApplyGateSpec.post enc Tryz.prog Tryz.f4 false true false false) := by
  refine returnsInHanded_of_change (C := Tryz.checked) own started (by kernel_rfl) Tryz.func4
    (ChangeSpec.witness6 (enc := enc) (C := Tryz.checked) false ⟨#[], #[.slice none 0 0], []⟩ 8 (by kernel_rfl) (by kernel_rfl) (by kernel_rfl) (by kernel_rfl)) ?_
  intro W base args ds gs before hval hW _ _
  exact contract H enc W base args ds gs before hval hW
theorem closedFacts : joinedFacts Tryz.pinned.checked.prog 4 Tryz.f4 Rows.fnApplyGateSpec Rows.fnApplyGateRow = true := by
  unfold joinedFacts
  rw [init_may, init_facts.2.1, init_facts.2.2]
  kernel_rfl
theorem said : Rows.FnApplyGateSaid :=
  OpenClaim.holds_of_wide 4 Tryz.f4 rfl rfl rfl rfl rfl rfl rfl ⟨rfl, rfl, rfl, rfl, rfl⟩ rfl rfl rfl rfl rfl (by kernel_rfl) Tryz.func4 closedFacts
    (of_decide_eq_true (by kernel_rfl)) (by unfold Func.isWrapper; first | (rw [if_pos (by decide +kernel)]; kernel_rfl) | (rw [if_neg (by decide +kernel)]; exact ⟨rfl, rfl⟩))
    (fun os started H enc _ => lifted os started H enc)
end Go.Proofs.YtmpafidkpangeaaGreat.fnApplyGate
