/- The law FnVec: addition of states commutes, and the inner product is conjugate symmetric, at every code. No condition. -/
import Derived.Test.YtggjbpgibdpflaaBaseB02
import Derived.Test.YtggjbpgibdpflaaBaseB21
import Derived.Test.YtggjbpgibdpflaaBaseB06
import Derived.Test.YtggjbpgibdpflaaBaseB18
import Derived.Lib.SmallJoins
import Derived.WalkKit
import Derived.ProofKit
import Derived.OpenShut
import Derived.Deep.DeepHandedRow
import Derived.Lib.LaidTab
import Derived.LaidMore
import Derived.LaidHandle
import Derived.Lay
import Derived.Stop.LaidErr
namespace Go.Proofs.Ytggjbpgibdpflaa.fnVec
open Go.ChangeShapes Go.WideShapes Go.ChangeAt Go.RowKit Go.Lib
attribute [local irreducible] World.cell?
set_option maxRecDepth 100000 in
set_option maxHeartbeats 6400000 in
theorem core (a0 : Option Addr) (len cap : Nat) (hs : len ≤ 1048576) (_ : len ≤ cap) (w : World) (hcode : CodeAt w w.heap.size a0 len) :
    Calls Try.prog 14 #[.slice a0 len cap] w fun e w' => e = .returned (.bool true) ∧ Below w.heap.size w w' := by
  have Hc := Lib.hid hcode
  have Hb := Lib.hid (Below.refl w.heap.size w)
  clear hcode
  go_enter Try.func14, Try.ntmps14
  go_wp2_with (go_at_call 19; go_in)
  refine (drawAdd a0 len cap _ Hc.out).mono ?_
  rintro e w1 ⟨⟨u, v, a, b, rfl, ha8, hb8, hEa, hEb, hdu1, hd1⟩, hb1⟩
  have Hu := Lib.hid hdu1.upto
  have Hv := Lib.hid hd1.upto
  clear hdu1
  have Hb := Lib.hid (below_nx Hb.out hb1)
  have hz1 := hb1.size
  clear hb1 hd1
  have ha : a.length ≤ 1048576 := by omega
  have hb : b.length ≤ 1048576 := by omega
  have hr : (addSL a b).length ≤ 1048576 := Nat.le_trans (addSL_len a b) hb
  have Ha1 := Lib.hid (fun W B C v u (h1 : DSl W B v a) (h2 : DSl W C u b) => iaddSt B C v u a b W h1 h2 hEa hEb ha hb)
  have Ha2 := Lib.hid (fun W B C v u (h1 : DSl W B v b) (h2 : DSl W C u a) => iaddSt B C v u b a W h1 h2 hEb hEa hb ha)
  rw [(addS_comm a b).1, (addS_comm a b).2] at Ha2
  have Hs1 := Lib.hid (fun W B C v u (h1 : DSl W B v a) (h2 : DSl W C u b) => saddSt B C v u a b W h1 h2 ha hb)
  have Hi1 := Lib.hid (fun W B C v u (h1 : DSl W B v a) (h2 : DSl W C u b) => iinner B C v u a b W h1 h2 hEa hEb ha hb)
  have Hi2 := Lib.hid (fun W B C v u (h1 : DSl W B v b) (h2 : DSl W C u a) => iinner B C v u b a W h1 h2 hEb hEa hb ha)
  have Hi3 := Lib.hid (fun W B C v u (h1 : DSl W B v a) (h2 : DSl W C u b) => sinnSt B C v u a b W h1 h2 ha hb)
  have Hsy := Lib.hid (fun h h' => inn_sym (a := a) (b := b) h h')
  have Hcj := Lib.hid (fun w => iconjD_any (innV a b) w (innV_eb a b).1 (innV_eb a b).2)
  generalize dConjV (innV a b) = xc at *
  generalize addSL a b = r at *
  generalize addSB a b = ok at *
  generalize innV a b = x at *
  generalize innB a b = t1 at *
  generalize innV b a = y at *
  generalize innB b a = t2 at *
  go_wp2_with fail
  refine (Ha1.out _ _ _ _ _ Hu.out.dsl Hv.out.dsl).mono ?_
  rintro e w2 ⟨⟨vs, rfl, hd2⟩, hb2⟩
  have Hs := Lib.hid hd2.upto
  have Hv := Lib.hid (Hv.out.below hb2)
  have Hu := Lib.hid (Hu.out.below hb2)
  have Hb := Lib.hid (below_nx Hb.out hb2)
  have hz2 := hb2.size
  clear hb2 hd2
  go_wp2_with fail
  refine (Ha2.out _ _ _ _ _ Hv.out.dsl Hu.out.dsl).mono ?_
  rintro e w3 ⟨⟨vt, rfl, hd3⟩, hb3⟩
  have Ht := Lib.hid hd3.upto
  have Hv := Lib.hid (Hv.out.below hb3)
  have Hu := Lib.hid (Hu.out.below hb3)
  have Hs := Lib.hid (Hs.out.below hb3)
  have Hb := Lib.hid (below_nx Hb.out hb3)
  have hz3 := hb3.size
  clear hb3 hd3
  go_wp2_with fail
  refine (Hs1.out _ _ _ _ _ Hu.out.dsl Hv.out.dsl).mono ?_
  rintro e w4 ⟨⟨vz, rfl, -⟩, hb4⟩
  have Hv := Lib.hid (Hv.out.below hb4)
  have Hu := Lib.hid (Hu.out.below hb4)
  have Hs := Lib.hid (Hs.out.below hb4)
  have Ht := Lib.hid (Ht.out.below hb4)
  have Hb := Lib.hid (below_nx Hb.out hb4)
  have hz4 := hb4.size
  clear hb4
  go_wp2_with fail
  refine (sequal_self _ _ _ _ r _ Hs.out.dsl Ht.out.dsl hr).mono ?_
  rintro e w5 ⟨rfl, hb5⟩
  have Hv := Lib.hid (Hv.out.below hb5)
  have Hu := Lib.hid (Hu.out.below hb5)
  have Hs := Lib.hid (Hs.out.below hb5)
  have Ht := Lib.hid (Ht.out.below hb5)
  have Hb := Lib.hid (below_nx Hb.out hb5)
  have hz5 := hb5.size
  clear hb5
  go_wp2_with fail
  refine (Hi1.out _ _ _ _ _ Hu.out.dsl Hv.out.dsl).mono ?_
  rintro e w6 ⟨rfl, hb6⟩
  have hb6 := hb6.alloc hb6.size (.cells #[.int .i64 x.n.a, .int .i64 x.n.b, .int .i64 x.n.c, .int .i64 x.n.d, .int .i64 x.e] 60)
  have Hv := Lib.hid (Hv.out.below hb6)
  have Hu := Lib.hid (Hu.out.below hb6)
  have Hb := Lib.hid (below_nx Hb.out hb6)
  have hz6 := hb6.size
  have HBx := Lib.hid (heap_alloc_new w6 (.cells #[.int .i64 x.n.a, .int .i64 x.n.b, .int .i64 x.n.c, .int .i64 x.n.d, .int .i64 x.e] 60))
  clear hb6
  obtain ⟨b6_0a, b6_0b, b6_0c, b6_0d, b6_0e⟩ := blk_cells5 HBx.out
  have bz6_0 := lt_of_block HBx.out
  go_wp2_with fail
  refine (Hi2.out _ _ _ _ _ Hv.out.dsl Hu.out.dsl).mono ?_
  rintro e w7 ⟨rfl, hb7⟩
  clear b6_0a b6_0b b6_0c b6_0d b6_0e bz6_0
  have hb7 := hb7.alloc hb7.size (.cells #[.int .i64 y.n.a, .int .i64 y.n.b, .int .i64 y.n.c, .int .i64 y.n.d, .int .i64 y.e] 60)
  have Hv := Lib.hid (Hv.out.below hb7)
  have Hu := Lib.hid (Hu.out.below hb7)
  have HBx := Lib.hid (below_blk hb7 (lt_of_block HBx.out) HBx.out)
  have Hb := Lib.hid (below_nx Hb.out hb7)
  have hz7 := hb7.size
  have HBy := Lib.hid (heap_alloc_new w7 (.cells #[.int .i64 y.n.a, .int .i64 y.n.b, .int .i64 y.n.c, .int .i64 y.n.d, .int .i64 y.e] 60))
  clear hb7
  obtain ⟨b7_0a, b7_0b, b7_0c, b7_0d, b7_0e⟩ := blk_cells5 HBx.out
  have bz7_0 := lt_of_block HBx.out
  obtain ⟨b7_1a, b7_1b, b7_1c, b7_1d, b7_1e⟩ := blk_cells5 HBy.out
  have bz7_1 := lt_of_block HBy.out
  go_wp2_with fail
  refine (Hi3.out _ _ _ _ _ Hu.out.dsl Hv.out.dsl).mono ?_
  rintro e w8 ⟨rfl, hb8⟩
  clear b7_0a b7_0b b7_0c b7_0d b7_0e bz7_0 b7_1a b7_1b b7_1c b7_1d b7_1e bz7_1
  have hb8 := hb8.alloc hb8.size (.cells #[.int .i64 x.n.a, .int .i64 x.n.b, .int .i64 x.n.c, .int .i64 x.n.d, .int .i64 x.e] 60)
  have Hv := Lib.hid (Hv.out.below hb8)
  have Hu := Lib.hid (Hu.out.below hb8)
  have HBx := Lib.hid (below_blk hb8 (lt_of_block HBx.out) HBx.out)
  have HBy := Lib.hid (below_blk hb8 (lt_of_block HBy.out) HBy.out)
  have Hb := Lib.hid (below_nx Hb.out hb8)
  have hz8 := hb8.size
  have HBz := Lib.hid (heap_alloc_new w8 (.cells #[.int .i64 x.n.a, .int .i64 x.n.b, .int .i64 x.n.c, .int .i64 x.n.d, .int .i64 x.e] 60))
  clear hb8
  obtain ⟨b8_0a, b8_0b, b8_0c, b8_0d, b8_0e⟩ := blk_cells5 HBx.out
  have bz8_0 := lt_of_block HBx.out
  obtain ⟨b8_1a, b8_1b, b8_1c, b8_1d, b8_1e⟩ := blk_cells5 HBy.out
  have bz8_1 := lt_of_block HBy.out
  obtain ⟨b8_2a, b8_2b, b8_2c, b8_2d, b8_2e⟩ := blk_cells5 HBz.out
  have bz8_2 := lt_of_block HBz.out
  go_upto_region 12 with fail
  have HbF := Hb
  cases t1 with
  | false =>
    go_quiet (fail)
    go_wp2_with fail
    go_ret
    exact ⟨rfl, below_dn HbF.out _⟩
  | true =>
    cases t2 with
    | false =>
      go_quiet (fail)
      go_wp2_with fail
      go_ret
      exact ⟨rfl, below_dn HbF.out _⟩
    | true =>
      have hxy : xc = y := Hsy.out rfl rfl
      subst hxy
      have hq := eqD xc xc
      rw [eqDB_self] at hq
      have hS : D2 w w6.heap.size w7.heap.size x xc (w8.alloc (.cells #[.int .i64 x.n.a, .int .i64 x.n.b, .int .i64 x.n.c, .int .i64 x.n.d, .int .i64 x.e] 60)) := ⟨b8_0a, b8_0b, b8_0c, b8_0d, b8_0e, b8_1a, b8_1b, b8_1c, b8_1d, b8_1e, bz8_0, bz8_1, HbF.out⟩
      go_region_held3 (fun w' => w'.cell? ⟨w6.heap.size, 0, none⟩ = some (.int .i64 x.n.a) ∧ w'.cell? ⟨w6.heap.size, 1, none⟩ = some (.int .i64 x.n.b) ∧ w'.cell? ⟨w6.heap.size, 2, none⟩ = some (.int .i64 x.n.c) ∧ w'.cell? ⟨w6.heap.size, 3, none⟩ = some (.int .i64 x.n.d) ∧ w'.cell? ⟨w6.heap.size, 4, none⟩ = some (.int .i64 x.e) ∧ w'.cell? ⟨w7.heap.size, 0, none⟩ = some (.int .i64 xc.n.a) ∧ w'.cell? ⟨w7.heap.size, 1, none⟩ = some (.int .i64 xc.n.b) ∧ w'.cell? ⟨w7.heap.size, 2, none⟩ = some (.int .i64 xc.n.c) ∧ w'.cell? ⟨w7.heap.size, 3, none⟩ = some (.int .i64 xc.n.d) ∧ w'.cell? ⟨w7.heap.size, 4, none⟩ = some (.int .i64 xc.e) ∧ w6.heap.size < w'.heap.size ∧ w7.heap.size < w'.heap.size ∧ Below w.heap.size w w') (first | (show D2 w w6.heap.size w7.heap.size x xc _; (with_reducible exact hS.drew)) | (show D2 w w6.heap.size w7.heap.size x xc _; (with_reducible refine D2.below ?_ hbR); first | assumption | exact ⟨by assumption, by assumption, by assumption, by assumption, by assumption, by assumption, by assumption, by assumption, by assumption, by assumption, by assumption, by assumption, by assumption⟩))
        (first | (go_at_call 57; (with_reducible refine (Hcj.out _).mono ?_); rintro e wR ⟨rfl, hbR⟩))
      all_goals go_wp2_with fail
      all_goals go_ret
      all_goals exact ⟨rfl, D2.low (n0 := w6.heap.size) (n1 := w7.heap.size) (x0 := x) (x1 := xc) (by first | assumption | exact ⟨by assumption, by assumption, by assumption, by assumption, by assumption, by assumption, by assumption, by assumption, by assumption, by assumption, by assumption, by assumption, by assumption⟩)⟩
set_option maxRecDepth 100000 in
set_option maxHeartbeats 400000 in
theorem walk (a0 : Option Addr) (len cap : Nat) (w : World) (hm : len ≤ maxLen) (hlc : len ≤ cap) (hc : len ≤ 1048576 → CodeAt w w.heap.size a0 len) :
    Calls Try.prog 14 #[.slice a0 len cap] w fun e w' => e = .returned (.bool true) ∧ Below w.heap.size w w' := by
  by_cases hs : len ≤ 1048576
  · exact core a0 len cap hs hlc w (hc hs)
  · unfold maxLen at hm
    clear hc
    go_enter Try.func14, Try.ntmps14
    go_wp2_with (go_at_call 19; go_in)
    go_ret
    exact ⟨rfl, Below.refl _ _⟩

open Go.ChangeMaps (open_string shut_string)
theorem laidOut : laidOutB Try.prog = true := by kernel_rfl
theorem own : ownKnob Try.prog.godebug = none := by kernel_rfl
set_option maxRecDepth 100000 in
/-- What the walk gives, for every argument. -/
theorem contract (H : Type) (enc : TypeId × Value → H) (W : World) (base : Nat) (args : Array Value) (ds gs : List (DataW H)) (before : List MemPlace)
    (hval : ∀ (j : Nat) t v, Try.f14.params[j]? = some t → args[j]? = some v → Value.okWide Try.prog W .any base t v)
    (hW : DataW.Whole enc Try.prog Try.f14.params.toList Rows.fnVecSpec.vars false W args.toList ds gs before) :
    Calls Try.prog 14 args W fun e W' => ∃ v, e = .returned v ∧ Rows.fnVecSpec.post enc Try.prog Try.f14 false true false false W args v W' := by
  have hW' := hW
  obtain ⟨p, q, hA0, hV, rfl, hfz, hnd⟩ := hW
  have hA : DataW.TrodAll enc Try.prog W 0 (fun _ => true) true Try.f14.params.toList args.toList ds p := hA0
  rw [Try.params14] at hA hval
  obtain ⟨v0, vs0, d0, ds0, p0, q0, hargs, rfl, rfl, h0, r0⟩ := trodAll_cons hA
  obtain ⟨rfl, rfl, rfl⟩ := trodAll_nil r0
  obtain rfl : args = #[v0] := by cases args; simp_all
  obtain ⟨rfl, rfl⟩ := trodVars_none hV
  obtain ⟨ca, cl, cc, rfl⟩ := okWide_slice Try.underlying22 (hval 0 22 v0 rfl rfl)
  have k0 := h0
  have lt0 : ∀ x ∈ p0, x.block < W.heap.size := by obtain ⟨m, hm⟩ := k0; exact DataW.trod_lt m _ _ _ hm
  have ch : (cl ≤ 1048576 → CodeAt W W.heap.size ca cl) ∧ cl ≤ maxLen ∧ cl ≤ cc := by
    obtain ⟨fuel, hf⟩ := h0
    rcases open_ints Try.underlying22 Try.underlying5 (by kernel_rfl) hf with ⟨hcs, _⟩ | ⟨x, l, c, zs, hcs, _, hl, hm, hz, _, hcell, hwz⟩
    · simp [Value.cells] at hcs
      obtain ⟨rfl, rfl, rfl⟩ := hcs
      exact ⟨fun _ => ⟨by omega, fun h => absurd h (by omega)⟩, Nat.zero_le _, Nat.le_refl _⟩
    · simp [Value.cells] at hcs
      obtain ⟨rfl, rfl, rfl⟩ := hcs
      have hz2 : zs.length = cc := by simpa using hz
      exact ⟨fun hs => code_of hs (by omega) hcell hwz, by omega, hl⟩
  clear hA0
  simp only [List.append_nil] at hW'
  refine (walk ca cl cc W ch.2.1 ch.2.2 ch.1).mono fun e W' ⟨he, hg⟩ => ?_
  subst he
  exact ⟨_, rfl, _, _, _, [], _, [], hW', trodAll_mk1 (shut_bool Try.underlying4 _), (trodAll_cons_mk (Below.trod laidOut (by kernel_rfl) (of_decide_eq_true (by kernel_rfl)) k0 hg lt0) trodAll_mk0), rfl, hg.frame _, fun h => by cases h⟩

set_option maxRecDepth 100000 in
theorem lifted (os : Os) (started : os.Started) (H : Type) (enc : TypeId × Value → H) :
    ReturnsInHanded {} Try.checked os 14 .any (Rows.fnVecSpec.pre6 enc Try.prog Try.f14 Rows.fnVecRow.domain false) (Rows.fnVecSpec.post enc Try.prog Try.f14 false true false false) := by
  refine returnsInHanded_of_change (C := Try.checked) own started (by kernel_rfl) Try.func14
    (ChangeSpec.witness6 (enc := enc) (C := Try.checked) false ⟨#[], #[.slice none 0 0], []⟩ 8 (by kernel_rfl) (by kernel_rfl) (by kernel_rfl) (by kernel_rfl)) ?_
  intro W base args ds gs before hval hW _ _
  exact contract H enc W base args ds gs before hval hW
theorem closedFacts : joinedFacts Try.pinned.checked.prog 14 Try.f14 Rows.fnVecSpec Rows.fnVecRow = true := by
  unfold joinedFacts
  rw [init_may, init_facts.2.1, init_facts.2.2]
  kernel_rfl
theorem said : Rows.FnVecSaid :=
  OpenClaim.holds_of_wide 14 Try.f14 rfl rfl rfl rfl rfl rfl rfl ⟨rfl, rfl, rfl, rfl, rfl⟩ rfl rfl rfl rfl rfl (by kernel_rfl) Try.func14 closedFacts
    (of_decide_eq_true (by kernel_rfl)) (by unfold Func.isWrapper; first | (rw [if_pos (by decide +kernel)]; kernel_rfl) | (rw [if_neg (by decide +kernel)]; exact ⟨rfl, rfl⟩))
    (fun os started H enc _ => lifted os started H enc)
end Go.Proofs.Ytggjbpgibdpflaa.fnVec
