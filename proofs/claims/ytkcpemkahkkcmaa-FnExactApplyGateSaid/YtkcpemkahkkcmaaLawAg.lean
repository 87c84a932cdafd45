/- The law FnExactApplyGate: ApplyGate answers as its model, at every gate and state. No condition. -/
import Derived.Test.YtkcpemkahkkcmaaInit
import Derived.Test.YtkcpemkahkkcmaaBaseB19
import Derived.Test.YtkcpemkahkkcmaaBaseB14
import Derived.Test.YtkcpemkahkkcmaaBaseB21
import Derived.Test.YtkcpemkahkkcmaaBaseB20
import Derived.Test.YtkcpemkahkkcmaaBaseB04
import Derived.Lib.SmallJoins
import Derived.WalkKit
import Derived.ProofKit
import Derived.OpenShut
import Derived.Deep.DeepHandedRow
import Derived.Lib.LaidTab
import Derived.LaidMore
import Derived.LaidHandle
import Derived.Lay
import Derived.Stop.LaidErr
namespace Go.Proofs.Ytkcpemkahkkcmaa.fnExactApplyGate
open Go.ChangeShapes Go.WideShapes Go.ChangeAt Go.RowKit Go.Lib
attribute [local irreducible] World.cell?
set_option maxRecDepth 100000 in
set_option maxHeartbeats 6400000 in
theorem walk (g : Gt) (la : Option Addr) (lc : Nat) (l : List Dw) (w : World) (hin : DsIn w w.heap.size la l) :
    Calls Try.prog 12 #[(.agg #[.int .i64 g.k, .int .i64 g.a, .int .i64 g.b, .int .i64 g.c]), .slice la l.length lc] w fun e w' => e = .returned (.bool true) ∧ Below w.heap.size w w' := by
  have HX := Lib.hid (heap_alloc_new w (.cells #[.int .i64 g.k, .int .i64 g.a, .int .i64 g.b, .int .i64 g.c] 62))
  obtain ⟨c0, c1, c2, c3⟩ := blk_cells HX.out
  have Hb := Lib.hid (show Below w.heap.size w (w.alloc (.cells #[.int .i64 g.k, .int .i64 g.a, .int .i64 g.b, .int .i64 g.c] 62)) by go_grown)
  by_cases hnl : l.length ≤ 1048576
  · have Hinl := Lib.hid hin
    have hEl := hin.eb
    have hr : (agV g l).length ≤ 1048576 := Nat.le_trans (agV_len g l) hnl
    have Hsp := Lib.hid (fun W B v (h1 : DSl W B v l) => sapG B g v l W h1 hnl)
    have Him := Lib.hid (fun W B v (h1 : DSl W B v l) => iapG B g v l W h1 hEl hnl)
    generalize agV g l = r at *
    generalize agB g l = t at *
    clear hin
    go_enter Try.func12, Try.ntmps12
    go_wp2_with fail
    refine (szFit la l.length lc 1048576 _ (by omega) (by omega) (by omega)).mono ?_
    rintro e w1 ⟨rfl, rfl⟩
    go_wp2_with fail
    refine (toG g _).mono ?_
    rintro e w2 ⟨rfl, hb2⟩
    have Hb := Lib.hid (below_nx Hb.out hb2)
    have hz2 := hb2.size
    have HX := Lib.hid (below_blk hb2 (lt_of_block HX.out) HX.out)
    clear c0 c1 c2 c3
    obtain ⟨c0, c1, c2, c3⟩ := blk_cells HX.out
    have hxl := lt_of_block HX.out
    clear hb2
    go_wp2_with fail
    refine (toDsB la lc w.heap.size l _ (Hinl.out.below Hb.out) Hb.out.size hnl).mono ?_
    rintro e w3 ⟨vs0, rfl, hd3, hb3⟩
    have Hs0 := Lib.hid hd3.upto
    have Hb := Lib.hid (below_nx Hb.out hb3)
    have hz3 := hb3.size
    have HX := Lib.hid (below_blk hb3 (lt_of_block HX.out) HX.out)
    clear c0 c1 c2 c3
    obtain ⟨c0, c1, c2, c3⟩ := blk_cells HX.out
    have hxl := lt_of_block HX.out
    clear hb3 hd3
    go_wp2_with fail
    refine (Hsp.out _ _ _ Hs0.out.dsl).mono ?_
    rintro e w4 ⟨⟨v0, rfl, hd4⟩, hb4⟩
    have Hw0 := Lib.hid hd4.upto
    have Hs0 := Lib.hid (Hs0.out.below hb4)
    have Hb := Lib.hid (below_nx Hb.out hb4)
    have hz4 := hb4.size
    have HX := Lib.hid (below_blk hb4 (lt_of_block HX.out) HX.out)
    clear c0 c1 c2 c3
    obtain ⟨c0, c1, c2, c3⟩ := blk_cells HX.out
    have hxl := lt_of_block HX.out
    clear hb4 hd4
    go_wp2_with fail
    refine (toDsB la lc w.heap.size l _ (Hinl.out.below Hb.out) Hb.out.size hnl).mono ?_
    rintro e w5 ⟨vx0, rfl, hd5, hb5⟩
    have Hx0 := Lib.hid hd5.upto
    have Hw0 := Lib.hid (Hw0.out.below hb5)
    have Hb := Lib.hid (below_nx Hb.out hb5)
    have hz5 := hb5.size
    have HX := Lib.hid (below_blk hb5 (lt_of_block HX.out) HX.out)
    clear c0 c1 c2 c3
    obtain ⟨c0, c1, c2, c3⟩ := blk_cells HX.out
    have hxl := lt_of_block HX.out
    clear hb5 hd5
    go_wp2_with fail
    refine (toG g _).mono ?_
    rintro e w6 ⟨rfl, hb6⟩
    have Hw0 := Lib.hid (Hw0.out.below hb6)
    have Hx0 := Lib.hid (Hx0.out.below hb6)
    have Hb := Lib.hid (below_nx Hb.out hb6)
    have hz6 := hb6.size
    have HX := Lib.hid (below_blk hb6 (lt_of_block HX.out) HX.out)
    clear c0 c1 c2 c3
    obtain ⟨c0, c1, c2, c3⟩ := blk_cells HX.out
    have hxl := lt_of_block HX.out
    clear hb6
    go_wp2_with fail
    refine (Him.out _ _ _ Hx0.out.dsl).mono ?_
    rintro e w7 ⟨⟨vg, rfl, hd7⟩, hb7⟩
    have Hg0 := Lib.hid hd7.upto
    have Hw0 := Lib.hid (Hw0.out.below hb7)
    have Hx0 := Lib.hid (Hx0.out.below hb7)
    have Hb := Lib.hid (below_nx Hb.out hb7)
    have hz7 := hb7.size
    have HX := Lib.hid (below_blk hb7 (lt_of_block HX.out) HX.out)
    clear c0 c1 c2 c3
    obtain ⟨c0, c1, c2, c3⟩ := blk_cells HX.out
    have hxl := lt_of_block HX.out
    clear hb7 hd7
    go_wp2_with fail
    refine (eqDs _ _ _ _ r _ Hg0.out.dsl Hw0.out.dsl hr).mono ?_
    rintro e w8 ⟨rfl, hb8⟩
    have Hw0 := Lib.hid (Hw0.out.below hb8)
    have Hx0 := Lib.hid (Hx0.out.below hb8)
    have Hg0 := Lib.hid (Hg0.out.below hb8)
    have Hb := Lib.hid (below_nx Hb.out hb8)
    have hz8 := hb8.size
    have HX := Lib.hid (below_blk hb8 (lt_of_block HX.out) HX.out)
    clear c0 c1 c2 c3
    obtain ⟨c0, c1, c2, c3⟩ := blk_cells HX.out
    have hxl := lt_of_block HX.out
    clear hb8
    go_wp2_with fail
    refine (toDsB la lc w.heap.size l _ (Hinl.out.below Hb.out) Hb.out.size hnl).mono ?_
    rintro e w9 ⟨vs2, rfl, hd9, hb9⟩
    have Hs2 := Lib.hid hd9.upto
    have Hw0 := Lib.hid (Hw0.out.below hb9)
    have Hx0 := Lib.hid (Hx0.out.below hb9)
    have Hg0 := Lib.hid (Hg0.out.below hb9)
    have Hb := Lib.hid (below_nx Hb.out hb9)
    have hz9 := hb9.size
    have HX := Lib.hid (below_blk hb9 (lt_of_block HX.out) HX.out)
    clear c0 c1 c2 c3
    obtain ⟨c0, c1, c2, c3⟩ := blk_cells HX.out
    have hxl := lt_of_block HX.out
    clear hb9 hd9
    go_wp2_with fail
    refine (eqDs _ _ _ _ l _ Hx0.out.dsl Hs2.out.dsl hnl).mono ?_
    rintro e w10 ⟨rfl, hb10⟩
    have Hw0 := Lib.hid (Hw0.out.below hb10)
    have Hx0 := Lib.hid (Hx0.out.below hb10)
    have Hg0 := Lib.hid (Hg0.out.below hb10)
    have Hs2 := Lib.hid (Hs2.out.below hb10)
    have Hb := Lib.hid (below_nx Hb.out hb10)
    have hz10 := hb10.size
    have HX := Lib.hid (below_blk hb10 (lt_of_block HX.out) HX.out)
    clear c0 c1 c2 c3
    obtain ⟨c0, c1, c2, c3⟩ := blk_cells HX.out
    have hxl := lt_of_block HX.out
    clear hb10
    go_wp2_with fail
    refine (mark1 _ _ _ l _ Hx0.out hnl).mono ?_
    rintro e w11 ⟨rfl, hd11, hm11⟩
    have Hw0 := Lib.hid (show DSc w11 _ _ _ _ by first | exact hm11.dsc_lo Hw0.out (by omega) | exact hm11.dsc_hi Hw0.out (by omega))
    have Hg0 := Lib.hid (show DSc w11 _ _ _ _ by first | exact hm11.dsc_lo Hg0.out (by omega) | exact hm11.dsc_hi Hg0.out (by omega))
    have Hx0 := Lib.hid hd11
    have hz11 := hm11.1.size
    have Hb := Lib.hid (mid_low Hb.out hm11 (by omega))
    have HX := Lib.hid ((hm11.1.block w.heap.size (by omega)).trans HX.out)
    clear c0 c1 c2 c3
    obtain ⟨c0, c1, c2, c3⟩ := blk_cells HX.out
    have hxl := lt_of_block HX.out
    clear hd11 hm11
    go_wp2_with fail
    refine (eqDs _ _ _ _ r _ Hg0.out.dsl Hw0.out.dsl hr).mono ?_
    rintro e w12 ⟨rfl, hb12⟩
    have Hw0 := Lib.hid (Hw0.out.below hb12)
    have Hg0 := Lib.hid (Hg0.out.below hb12)
    have Hb := Lib.hid (below_nx Hb.out hb12)
    have hz12 := hb12.size
    have HX := Lib.hid (below_blk hb12 (lt_of_block HX.out) HX.out)
    clear c0 c1 c2 c3
    obtain ⟨c0, c1, c2, c3⟩ := blk_cells HX.out
    have hxl := lt_of_block HX.out
    clear hb12
    go_wp2_with fail
    refine (mark1 _ _ _ r _ Hg0.out hr).mono ?_
    rintro e w13 ⟨rfl, hd13, hm13⟩
    have Hw0 := Lib.hid (show DSc w13 _ _ _ _ by first | exact hm13.dsc_lo Hw0.out (by omega) | exact hm13.dsc_hi Hw0.out (by omega))
    have Hg0 := Lib.hid hd13
    have hz13 := hm13.1.size
    have Hb := Lib.hid (mid_low Hb.out hm13 (by omega))
    have HX := Lib.hid ((hm13.1.block w.heap.size (by omega)).trans HX.out)
    clear c0 c1 c2 c3
    obtain ⟨c0, c1, c2, c3⟩ := blk_cells HX.out
    have hxl := lt_of_block HX.out
    clear hd13 hm13
    go_wp2_with fail
    refine (held1 _ r.length _ _ Hg0.out.dsl hr).mono ?_
    rintro e w14 ⟨rfl, rfl⟩
    go_wp2_with fail
    refine (toG g _).mono ?_
    rintro e w15 ⟨rfl, hb15⟩
    have Hw0 := Lib.hid (Hw0.out.below hb15)
    have Hg0 := Lib.hid (Hg0.out.below hb15)
    have Hb := Lib.hid (below_nx Hb.out hb15)
    have hz15 := hb15.size
    have HX := Lib.hid (below_blk hb15 (lt_of_block HX.out) HX.out)
    clear c0 c1 c2 c3
    obtain ⟨c0, c1, c2, c3⟩ := blk_cells HX.out
    have hxl := lt_of_block HX.out
    clear hb15
    go_wp2_with fail
    refine (toDsB la lc w.heap.size l _ (Hinl.out.below Hb.out) Hb.out.size hnl).mono ?_
    rintro e w16 ⟨vs4, rfl, hd16, hb16⟩
    have Hs4 := Lib.hid hd16.upto
    have Hw0 := Lib.hid (Hw0.out.below hb16)
    have Hg0 := Lib.hid (Hg0.out.below hb16)
    have Hb := Lib.hid (below_nx Hb.out hb16)
    have hz16 := hb16.size
    have HX := Lib.hid (below_blk hb16 (lt_of_block HX.out) HX.out)
    clear c0 c1 c2 c3
    obtain ⟨c0, c1, c2, c3⟩ := blk_cells HX.out
    have hxl := lt_of_block HX.out
    clear hb16 hd16
    go_wp2_with fail
    refine (Him.out _ _ _ Hs4.out.dsl).mono ?_
    rintro e w17 ⟨⟨vh, rfl, hd17⟩, hb17⟩
    have Hh0 := Lib.hid hd17.upto
    have Hw0 := Lib.hid (Hw0.out.below hb17)
    have Hg0 := Lib.hid (Hg0.out.below hb17)
    have Hs4 := Lib.hid (Hs4.out.below hb17)
    have Hb := Lib.hid (below_nx Hb.out hb17)
    have hz17 := hb17.size
    have HX := Lib.hid (below_blk hb17 (lt_of_block HX.out) HX.out)
    clear c0 c1 c2 c3
    obtain ⟨c0, c1, c2, c3⟩ := blk_cells HX.out
    have hxl := lt_of_block HX.out
    clear hb17 hd17
    go_wp2_with fail
    refine (eqDs _ _ _ _ r _ Hh0.out.dsl Hw0.out.dsl hr).mono ?_
    rintro e w18 ⟨rfl, hb18⟩
    have Hw0 := Lib.hid (Hw0.out.below hb18)
    have Hg0 := Lib.hid (Hg0.out.below hb18)
    have Hh0 := Lib.hid (Hh0.out.below hb18)
    have Hb := Lib.hid (below_nx Hb.out hb18)
    have hz18 := hb18.size
    have HX := Lib.hid (below_blk hb18 (lt_of_block HX.out) HX.out)
    clear c0 c1 c2 c3
    obtain ⟨c0, c1, c2, c3⟩ := blk_cells HX.out
    have hxl := lt_of_block HX.out
    clear hb18
    go_wp2_with fail
    refine (held1 _ r.length _ _ Hg0.out.dsl hr).mono ?_
    rintro e w19 ⟨rfl, rfl⟩
    go_wp2_with fail
    go_ret
    exact ⟨rfl, Hb.out⟩
  · have hm := hin.1
    clear hin
    go_enter Try.func12, Try.ntmps12
    go_wp2_with fail
    refine (szBig la l.length lc 1048576 _ hm (by omega) (by omega) (by omega)).mono ?_
    rintro e w1 ⟨rfl, rfl⟩
    go_wp2_with fail
    go_ret
    exact ⟨rfl, by go_grown⟩
open Go.ChangeMaps (open_string shut_string)
theorem laidOut : laidOutB Try.prog = true := by kernel_rfl
theorem own : ownKnob Try.prog.godebug = none := by kernel_rfl
set_option maxRecDepth 100000 in
/-- What the walk gives, for every argument. -/
theorem contract (H : Type) (enc : TypeId × Value → H) (W : World) (base : Nat) (args : Array Value) (ds gs : List (DataW H)) (before : List MemPlace)
    (hval : ∀ (j : Nat) t v, Try.f12.params[j]? = some t → args[j]? = some v → Value.okWide Try.prog W .any base t v)
    (hW : DataW.Whole enc Try.prog Try.f12.params.toList Rows.fnExactApplyGateSpec.vars false W args.toList ds gs before) :
    Calls Try.prog 12 args W fun e W' => ∃ v, e = .returned v ∧ Rows.fnExactApplyGateSpec.post enc Try.prog Try.f12 false true false false W args v W' := by
  have hW' := hW
  obtain ⟨p, q, hA0, hV, rfl, hfz, hnd⟩ := hW
  have hA : DataW.TrodAll enc Try.prog W 0 (fun _ => true) true Try.f12.params.toList args.toList ds p := hA0
  rw [Try.params12] at hA hval
  obtain ⟨v0, vs0, d0, ds0, p0, q0, hargs, rfl, rfl, h0, r0⟩ := trodAll_cons hA
  obtain ⟨v1, vs1, d1, ds1, p1, q1, rfl, rfl, rfl, h1, r1⟩ := trodAll_cons r0
  obtain ⟨rfl, rfl, rfl⟩ := trodAll_nil r1
  obtain rfl : args = #[v0, v1] := by cases args; simp_all
  obtain ⟨rfl, rfl⟩ := trodVars_none hV
  have k0 := h0
  have lt0 : ∀ x ∈ p0, x.block < W.heap.size := by obtain ⟨m, hm⟩ := k0; exact DataW.trod_lt m _ _ _ hm
  obtain ⟨g0, g1, g2, g3, gy0, gy1, gy2, gy3, gm, rfl, rfl, rfl, gt0, gt1, gt2, gt3⟩ := Go.Joins.open_agg4 Try.underlying62 (by kernel_rfl) (by kernel_rfl) (hval 0 62 v0 rfl rfl) h0
  obtain ⟨ga, ega, -, -⟩ := DataW.trod_int Try.underlying3 gt0
  obtain ⟨gb, egb, -, -⟩ := DataW.trod_int Try.underlying3 gt1
  obtain ⟨gc, egc, -, -⟩ := DataW.trod_int Try.underlying3 gt2
  obtain ⟨gd, egd, -, -⟩ := DataW.trod_int Try.underlying3 gt3
  obtain rfl := List.head_eq_of_cons_eq ega
  obtain rfl := List.head_eq_of_cons_eq egb
  obtain rfl := List.head_eq_of_cons_eq egc
  obtain rfl := List.head_eq_of_cons_eq egd
  clear ega egb egc egd gt0 gt1 gt2 gt3
  have k1 := h1
  have lt1 : ∀ x ∈ p1, x.block < W.heap.size := by obtain ⟨m, hm⟩ := k1; exact DataW.trod_lt m _ _ _ hm
  obtain ⟨la, lc, l, rfl, lh⟩ := open_ds (hval 1 63 v1 rfl rfl) h1
  clear hA0
  simp only [List.append_nil] at hW'
  refine (walk (Gt.mk ga gb gc gd) la lc l W lh).mono fun e W' ⟨he, hg⟩ => ?_
  subst he
  exact ⟨_, rfl, _, _, _, [], _, [], hW', trodAll_mk1 (shut_bool Try.underlying4 _), (trodAll_cons_mk (Below.trod laidOut (by kernel_rfl) (of_decide_eq_true (by kernel_rfl)) k0 hg lt0) (trodAll_cons_mk (Below.trod laidOut (by kernel_rfl) (of_decide_eq_true (by kernel_rfl)) k1 hg lt1) trodAll_mk0)), rfl, hg.frame _, fun h => by cases h⟩
set_option maxRecDepth 100000 in
theorem lifted (os : Os) (started : os.Started) (H : Type) (enc : TypeId × Value → H) :
    ReturnsInHanded {} Try.checked os 12 .any (Rows.fnExactApplyGateSpec.pre6 enc Try.prog Try.f12 Rows.fnExactApplyGateRow.domain false) (Rows.fnExactApplyGateSpec.post enc Try.prog Try.f12 false true false false) := by
  refine returnsInHanded_of_change (C := Try.checked) own started (by kernel_rfl) Try.func12
    (ChangeSpec.witness6 (enc := enc) (C := Try.checked) false ⟨#[], #[.agg #[.int .i64 0, .int .i64 0, .int .i64 0, .int .i64 0], .slice none 0 0], []⟩ 8 (by kernel_rfl) (by kernel_rfl) (by kernel_rfl) (by kernel_rfl)) ?_
  intro W base args ds gs before hval hW _ _
  exact contract H enc W base args ds gs before hval hW
theorem closedFacts : joinedFacts Try.pinned.checked.prog 12 Try.f12 Rows.fnExactApplyGateSpec Rows.fnExactApplyGateRow = true := by
  unfold joinedFacts
  rw [init_may, init_facts.2.1, init_facts.2.2]
  kernel_rfl
theorem said : Rows.FnExactApplyGateSaid :=
  OpenClaim.holds_of_wide 12 Try.f12 rfl rfl rfl rfl rfl rfl rfl ⟨rfl, rfl, rfl, rfl, rfl⟩ rfl rfl rfl rfl rfl (by kernel_rfl) Try.func12 closedFacts
    (of_decide_eq_true (by kernel_rfl)) (by unfold Func.isWrapper; first | (rw [if_pos (by decide +kernel)]; kernel_rfl) | (rw [if_neg (by decide +kernel)]; exact ⟨rfl, rfl⟩))
    (fun os started H enc _ => lifted os started H enc)
end Go.Proofs.Ytkcpemkahkkcmaa.fnExactApplyGate
