/- The law FnScaled: multiplying a state by a phase keeps its norm, at every code. No condition. -/
import Derived.Test.YtggjbpgibdpflaaBaseB02
import Derived.Test.YtggjbpgibdpflaaBaseB21
import Derived.Test.YtggjbpgibdpflaaBaseB06
import Derived.Test.YtggjbpgibdpflaaBaseB18
import Derived.Test.YtggjbpgibdpflaaBaseB20
import Derived.Lib.SmallJoins
import Derived.WalkKit
import Derived.ProofKit
import Derived.OpenShut
import Derived.Deep.DeepHandedRow
import Derived.Lib.LaidTab
import Derived.LaidMore
import Derived.LaidHandle
import Derived.Lay
import Derived.Stop.LaidErr
namespace Go.Proofs.Ytggjbpgibdpflaa.fnScaled
open Go.ChangeShapes Go.WideShapes Go.ChangeAt Go.RowKit Go.Lib
attribute [local irreducible] World.cell?
set_option maxRecDepth 100000 in
set_option maxHeartbeats 6400000 in
theorem core (a0 : Option Addr) (len cap : Nat) (hs : len ≤ 1048576) (hlc : len ≤ cap) (w : World) (hcode : CodeAt w w.heap.size a0 len) :
    Calls Try.prog 16 #[.slice a0 len cap] w fun e w' => e = .returned (.bool true) ∧ Below w.heap.size w w' := by
  have Hc := Lib.hid hcode
  have Hb := Lib.hid (Below.refl w.heap.size w)
  clear hcode
  go_enter Try.func16, Try.ntmps16
  go_wp2_with (go_at_call 19; go_in)
  refine (drawScale a0 len cap _ Hc.out).mono ?_
  rintro e w1 ⟨⟨v, l, x, rfl, hl8, hEl, ⟨hx0, hx1⟩, hd1⟩, hb1⟩
  have Hv := Lib.hid hd1.upto
  have hb1 := hb1.alloc hb1.size (.cells #[.int .i64 x.n.a, .int .i64 x.n.b, .int .i64 x.n.c, .int .i64 x.n.d, .int .i64 x.e] 60)
  have Hv := Lib.hid (Hv.out.below ((Below.refl _ _).alloc (Nat.le_refl _) (.cells #[.int .i64 x.n.a, .int .i64 x.n.b, .int .i64 x.n.c, .int .i64 x.n.d, .int .i64 x.e] 60)))
  have Hb := Lib.hid (below_nx Hb.out hb1)
  have hz1 := hb1.size
  have HBx := Lib.hid (heap_alloc_new w1 (.cells #[.int .i64 x.n.a, .int .i64 x.n.b, .int .i64 x.n.c, .int .i64 x.n.d, .int .i64 x.e] 60))
  clear hb1 hd1
  obtain ⟨b1_0a, b1_0b, b1_0c, b1_0d, b1_0e⟩ := blk_cells5 HBx.out
  have bz1_0 := lt_of_block HBx.out
  have hl : l.length ≤ 1048576 := by omega
  have hr : (scaleL l x).length ≤ 1048576 := Nat.le_trans (scaleL_len l x) hl
  have Hi := Lib.hid (fun W B v (h1 : DSl W B v l) => iscale B v l x W h1 hEl hl hx0 hx1)
  have Hs := Lib.hid (fun W B v (h1 : DSl W B v l) => sscale B v l x W h1 hl)
  have Hn := Lib.hid (fun W B C v u (h1 : DSl W B v l) (h2 : DSl W C u l) => sinnSt B C v u l l W h1 h2 hl hl)
  generalize scaleL l x = r at *
  generalize scaleB l x = ok at *
  go_wp2_with fail
  refine (Hi.out _ _ _ Hv.out.dsl).mono ?_
  rintro e w2 ⟨⟨vw, rfl, hd2⟩, hb2⟩
  clear b1_0a b1_0b b1_0c b1_0d b1_0e bz1_0
  have Hw := Lib.hid hd2.upto
  have Hv := Lib.hid (Hv.out.below hb2)
  have HBx := Lib.hid (below_blk hb2 (lt_of_block HBx.out) HBx.out)
  have Hb := Lib.hid (below_nx Hb.out hb2)
  have hz2 := hb2.size
  clear hb2 hd2
  obtain ⟨b2_0a, b2_0b, b2_0c, b2_0d, b2_0e⟩ := blk_cells5 HBx.out
  have bz2_0 := lt_of_block HBx.out
  go_wp2_with fail
  refine (Hs.out _ _ _ Hv.out.dsl).mono ?_
  rintro e w3 ⟨⟨vy, rfl, hd3⟩, hb3⟩
  clear b2_0a b2_0b b2_0c b2_0d b2_0e bz2_0
  have Hy := Lib.hid hd3.upto
  have Hv := Lib.hid (Hv.out.below hb3)
  have Hw := Lib.hid (Hw.out.below hb3)
  have HBx := Lib.hid (below_blk hb3 (lt_of_block HBx.out) HBx.out)
  have Hb := Lib.hid (below_nx Hb.out hb3)
  have hz3 := hb3.size
  clear hb3 hd3
  obtain ⟨b3_0a, b3_0b, b3_0c, b3_0d, b3_0e⟩ := blk_cells5 HBx.out
  have bz3_0 := lt_of_block HBx.out
  go_wp2_with fail
  refine (sequal_self _ _ _ _ r _ Hw.out.dsl Hy.out.dsl hr).mono ?_
  rintro e w4 ⟨rfl, hb4⟩
  clear b3_0a b3_0b b3_0c b3_0d b3_0e bz3_0
  have Hv := Lib.hid (Hv.out.below hb4)
  have Hw := Lib.hid (Hw.out.below hb4)
  have Hy := Lib.hid (Hy.out.below hb4)
  have HBx := Lib.hid (below_blk hb4 (lt_of_block HBx.out) HBx.out)
  have Hb := Lib.hid (below_nx Hb.out hb4)
  have hz4 := hb4.size
  clear hb4
  obtain ⟨b4_0a, b4_0b, b4_0c, b4_0d, b4_0e⟩ := blk_cells5 HBx.out
  have bz4_0 := lt_of_block HBx.out
  go_wp2_with fail
  refine (at0_any a0 len cap 4 (by omega) _ hlc hs ((Hc.out.below Hb.out).mono Hb.out.size)).mono ?_
  rintro e w5 ⟨⟨p, rfl, p0, p1⟩, rfl⟩
  have Hp := Lib.hid (fun W => iphase6 p W (by omega) (by omega))
  have hpe : -9223372036854775808 ≤ (dPh p).e ∧ (dPh p).e ≤ 9223372036854775807 := by have := (dPh_ok p).2; omega
  have hu : (scaleL l (dPh p)).length ≤ 1048576 := Nat.le_trans (scaleL_len l (dPh p)) hl
  have Hj := Lib.hid (fun W B v (h1 : DSl W B v l) => iscale B v l (dPh p) W h1 hEl hl hpe.1 hpe.2)
  have Hm := Lib.hid (fun W B C v u (h1 : DSl W B v (scaleL l (dPh p))) (h2 : DSl W C u (scaleL l (dPh p))) => sinnSt B C v u (scaleL l (dPh p)) (scaleL l (dPh p)) W h1 h2 hu hu)
  have Hq := Lib.hid (fun h h1 h2 => norm_phase (l := l) (i := p) h h1 h2)
  generalize scaleB l (dPh p) = fine at *
  generalize innV (scaleL l (dPh p)) (scaleL l (dPh p)) = b at *
  generalize innB (scaleL l (dPh p)) (scaleL l (dPh p)) = t2 at *
  generalize scaleL l (dPh p) = s at *
  generalize innV l l = a at *
  generalize innB l l = t1 at *
  generalize dPh p = ph at *
  go_wp2_with fail
  refine (Hp.out _).mono ?_
  rintro e w6 ⟨rfl, hb6⟩
  clear b4_0a b4_0b b4_0c b4_0d b4_0e bz4_0
  have Hv := Lib.hid (Hv.out.below hb6)
  have HBx := Lib.hid (below_blk hb6 (lt_of_block HBx.out) HBx.out)
  have Hb := Lib.hid (below_nx Hb.out hb6)
  have hz6 := hb6.size
  clear hb6
  obtain ⟨b6_0a, b6_0b, b6_0c, b6_0d, b6_0e⟩ := blk_cells5 HBx.out
  have bz6_0 := lt_of_block HBx.out
  go_wp2_with fail
  refine (Hj.out _ _ _ Hv.out.dsl).mono ?_
  rintro e w7 ⟨⟨vu, rfl, hd7⟩, hb7⟩
  clear b6_0a b6_0b b6_0c b6_0d b6_0e bz6_0
  have Hu := Lib.hid hd7.upto
  have Hv := Lib.hid (Hv.out.below hb7)
  have HBx := Lib.hid (below_blk hb7 (lt_of_block HBx.out) HBx.out)
  have Hb := Lib.hid (below_nx Hb.out hb7)
  have hz7 := hb7.size
  clear hb7 hd7
  obtain ⟨b7_0a, b7_0b, b7_0c, b7_0d, b7_0e⟩ := blk_cells5 HBx.out
  have bz7_0 := lt_of_block HBx.out
  go_wp2_with fail
  refine (Hn.out _ _ _ _ _ Hv.out.dsl Hv.out.dsl).mono ?_
  rintro e w8 ⟨rfl, hb8⟩
  clear b7_0a b7_0b b7_0c b7_0d b7_0e bz7_0
  have hb8 := hb8.alloc hb8.size (.cells #[.int .i64 a.n.a, .int .i64 a.n.b, .int .i64 a.n.c, .int .i64 a.n.d, .int .i64 a.e] 60)
  have Hv := Lib.hid (Hv.out.below hb8)
  have Hu := Lib.hid (Hu.out.below hb8)
  have HBx := Lib.hid (below_blk hb8 (lt_of_block HBx.out) HBx.out)
  have Hb := Lib.hid (below_nx Hb.out hb8)
  have hz8 := hb8.size
  have HBa := Lib.hid (heap_alloc_new w8 (.cells #[.int .i64 a.n.a, .int .i64 a.n.b, .int .i64 a.n.c, .int .i64 a.n.d, .int .i64 a.e] 60))
  clear hb8
  obtain ⟨b8_0a, b8_0b, b8_0c, b8_0d, b8_0e⟩ := blk_cells5 HBx.out
  have bz8_0 := lt_of_block HBx.out
  obtain ⟨b8_1a, b8_1b, b8_1c, b8_1d, b8_1e⟩ := blk_cells5 HBa.out
  have bz8_1 := lt_of_block HBa.out
  go_wp2_with fail
  refine (Hm.out _ _ _ _ _ Hu.out.dsl Hu.out.dsl).mono ?_
  rintro e w9 ⟨rfl, hb9⟩
  clear b8_0a b8_0b b8_0c b8_0d b8_0e bz8_0 b8_1a b8_1b b8_1c b8_1d b8_1e bz8_1
  have hb9 := hb9.alloc hb9.size (.cells #[.int .i64 b.n.a, .int .i64 b.n.b, .int .i64 b.n.c, .int .i64 b.n.d, .int .i64 b.e] 60)
  have Hv := Lib.hid (Hv.out.below hb9)
  have Hu := Lib.hid (Hu.out.below hb9)
  have HBx := Lib.hid (below_blk hb9 (lt_of_block HBx.out) HBx.out)
  have HBa := Lib.hid (below_blk hb9 (lt_of_block HBa.out) HBa.out)
  have Hb := Lib.hid (below_nx Hb.out hb9)
  have hz9 := hb9.size
  have HBb := Lib.hid (heap_alloc_new w9 (.cells #[.int .i64 b.n.a, .int .i64 b.n.b, .int .i64 b.n.c, .int .i64 b.n.d, .int .i64 b.e] 60))
  clear hb9
  obtain ⟨b9_0a, b9_0b, b9_0c, b9_0d, b9_0e⟩ := blk_cells5 HBx.out
  have bz9_0 := lt_of_block HBx.out
  obtain ⟨b9_1a, b9_1b, b9_1c, b9_1d, b9_1e⟩ := blk_cells5 HBa.out
  have bz9_1 := lt_of_block HBa.out
  obtain ⟨b9_2a, b9_2b, b9_2c, b9_2d, b9_2e⟩ := blk_cells5 HBb.out
  have bz9_2 := lt_of_block HBb.out
  have HbF := Hb
  cases fine with
  | false =>
    go_wp2_with fail
    go_ret
    exact ⟨rfl, HbF.out⟩
  | true =>
    cases t1 with
    | false =>
      go_wp2_with fail
      go_ret
      exact ⟨rfl, HbF.out⟩
    | true =>
      cases t2 with
      | false =>
        go_wp2_with fail
        go_ret
        exact ⟨rfl, HbF.out⟩
      | true =>
        have hab : a = b := Hq.out rfl rfl rfl
        subst hab
        have hq := eqD a a
        rw [eqDB_self] at hq
        go_wp2_with fail
        go_ret
        exact ⟨rfl, HbF.out⟩
set_option maxRecDepth 100000 in
set_option maxHeartbeats 400000 in
theorem walk (a0 : Option Addr) (len cap : Nat) (w : World) (hm : len ≤ maxLen) (hlc : len ≤ cap) (hc : len ≤ 1048576 → CodeAt w w.heap.size a0 len) :
    Calls Try.prog 16 #[.slice a0 len cap] w fun e w' => e = .returned (.bool true) ∧ Below w.heap.size w w' := by
  by_cases hs : len ≤ 1048576
  · exact core a0 len cap hs hlc w (hc hs)
  · unfold maxLen at hm
    clear hc
    go_enter Try.func16, Try.ntmps16
    go_wp2_with (go_at_call 19; go_in)
    go_ret
    exact ⟨rfl, Below.refl _ _⟩

open Go.ChangeMaps (open_string shut_string)
theorem laidOut : laidOutB Try.prog = true := by kernel_rfl
theorem own : ownKnob Try.prog.godebug = none := by kernel_rfl
set_option maxRecDepth 100000 in
/-- What the walk gives, for every argument. -/
theorem contract (H : Type) (enc : TypeId × Value → H) (W : World) (base : Nat) (args : Array Value) (ds gs : List (DataW H)) (before : List MemPlace)
    (hval : ∀ (j : Nat) t v, Try.f16.params[j]? = some t → args[j]? = some v → Value.okWide Try.prog W .any base t v)
    (hW : DataW.Whole enc Try.prog Try.f16.params.toList Rows.fnScaledSpec.vars false W args.toList ds gs before) :
    Calls Try.prog 16 args W fun e W' => ∃ v, e = .returned v ∧ Rows.fnScaledSpec.post enc Try.prog Try.f16 false true false false W args v W' := by
  have hW' := hW
  obtain ⟨p, q, hA0, hV, rfl, hfz, hnd⟩ := hW
  have hA : DataW.TrodAll enc Try.prog W 0 (fun _ => true) true Try.f16.params.toList args.toList ds p := hA0
  rw [Try.params16] at hA hval
  obtain ⟨v0, vs0, d0, ds0, p0, q0, hargs, rfl, rfl, h0, r0⟩ := trodAll_cons hA
  obtain ⟨rfl, rfl, rfl⟩ := trodAll_nil r0
  obtain rfl : args = #[v0] := by cases args; simp_all
  obtain ⟨rfl, rfl⟩ := trodVars_none hV
  obtain ⟨ca, cl, cc, rfl⟩ := okWide_slice Try.underlying22 (hval 0 22 v0 rfl rfl)
  have k0 := h0
  have lt0 : ∀ x ∈ p0, x.block < W.heap.size := by obtain ⟨m, hm⟩ := k0; exact DataW.trod_lt m _ _ _ hm
  have ch : (cl ≤ 1048576 → CodeAt W W.heap.size ca cl) ∧ cl ≤ maxLen ∧ cl ≤ cc := by
    obtain ⟨fuel, hf⟩ := h0
    rcases open_ints Try.underlying22 Try.underlying5 (by kernel_rfl) hf with ⟨hcs, _⟩ | ⟨x, l, c, zs, hcs, _, hl, hm, hz, _, hcell, hwz⟩
    · simp [Value.cells] at hcs
      obtain ⟨rfl, rfl, rfl⟩ := hcs
      exact ⟨fun _ => ⟨by omega, fun h => absurd h (by omega)⟩, Nat.zero_le _, Nat.le_refl _⟩
    · simp [Value.cells] at hcs
      obtain ⟨rfl, rfl, rfl⟩ := hcs
      have hz2 : zs.length = cc := by simpa using hz
      exact ⟨fun hs => code_of hs (by omega) hcell hwz, by omega, hl⟩
  clear hA0
  simp only [List.append_nil] at hW'
  refine (walk ca cl cc W ch.2.1 ch.2.2 ch.1).mono fun e W' ⟨he, hg⟩ => ?_
  subst he
  exact ⟨_, rfl, _, _, _, [], _, [], hW', trodAll_mk1 (shut_bool Try.underlying4 _), (trodAll_cons_mk (Below.trod laidOut (by kernel_rfl) (of_decide_eq_true (by kernel_rfl)) k0 hg lt0) trodAll_mk0), rfl, hg.frame _, fun h => by cases h⟩

set_option maxRecDepth 100000 in
theorem lifted (os : Os) (started : os.Started) (H : Type) (enc : TypeId × Value → H) :
    ReturnsInHanded {} Try.checked os 16 .any (Rows.fnScaledSpec.pre6 enc Try.prog Try.f16 Rows.fnScaledRow.domain false) (Rows.fnScaledSpec.post enc Try.prog Try.f16 false true false false) := by
  refine returnsInHanded_of_change (C := Try.checked) own started (by kernel_rfl) Try.func16
    (ChangeSpec.witness6 (enc := enc) (C := Try.checked) false ⟨#[], #[.slice none 0 0], []⟩ 8 (by kernel_rfl) (by kernel_rfl) (by kernel_rfl) (by kernel_rfl)) ?_
  intro W base args ds gs before hval hW _ _
  exact contract H enc W base args ds gs before hval hW
theorem closedFacts : joinedFacts Try.pinned.checked.prog 16 Try.f16 Rows.fnScaledSpec Rows.fnScaledRow = true := by
  unfold joinedFacts
  rw [init_may, init_facts.2.1, init_facts.2.2]
  kernel_rfl
theorem said : Rows.FnScaledSaid :=
  OpenClaim.holds_of_wide 16 Try.f16 rfl rfl rfl rfl rfl rfl rfl ⟨rfl, rfl, rfl, rfl, rfl⟩ rfl rfl rfl rfl rfl (by kernel_rfl) Try.func16 closedFacts
    (of_decide_eq_true (by kernel_rfl)) (by unfold Func.isWrapper; first | (rw [if_pos (by decide +kernel)]; kernel_rfl) | (rw [if_neg (by decide +kernel)]; exact ⟨rfl, rfl⟩))
    (fun os started H enc _ => lifted os started H enc)
end Go.Proofs.Ytggjbpgibdpflaa.fnScaled
