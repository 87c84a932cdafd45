/- The law FnExactInnerProduct: InnerProduct answers as its model, at every two states. No condition. -/
import Derived.Test.YtggjbpgibdpflaaBaseB02
import Derived.Test.YtggjbpgibdpflaaBaseB21
import Derived.Test.YtggjbpgibdpflaaBaseB06
import Derived.Lib.SmallJoins
import Derived.WalkKit
import Derived.ProofKit
import Derived.OpenShut
import Derived.Deep.DeepHandedRow
import Derived.Lib.LaidTab
import Derived.LaidMore
import Derived.LaidHandle
import Derived.Lay
import Derived.Stop.LaidErr
namespace Go.Proofs.Ytggjbpgibdpflaa.fnExactInnerProduct
open Go.ChangeShapes Go.WideShapes Go.ChangeAt Go.RowKit Go.Lib
attribute [local irreducible] World.cell?
set_option maxRecDepth 100000 in
set_option maxHeartbeats 3200000 in
theorem walk (aa : Option Addr) (ac : Nat) (a : List Dw) (ba : Option Addr) (bc : Nat) (b : List Dw) (w : World) (hina : DsIn w w.heap.size aa a) (hinb : DsIn w w.heap.size ba b) :
    Calls Try.prog 18 #[.slice aa a.length ac, .slice ba b.length bc] w fun e w' => e = .returned (.bool true) ∧ Below w.heap.size w w' := by
  by_cases hs : a.length + b.length ≤ 1048576
  · have ha : a.length ≤ 1048576 := by omega
    have hb : b.length ≤ 1048576 := by omega
    have Hina := Lib.hid hina
    have Hinb := Lib.hid hinb
    have hEa := hina.eb
    have hEb := hinb.eb
    have Hb := Lib.hid (Below.refl w.heap.size w)
    clear hina hinb
    go_enter Try.func18, Try.ntmps18
    go_wp2_with fail
    refine (szFit aa a.length ac 1048576 _ (by omega) (by omega) (by omega)).mono ?_
    rintro e w1 ⟨rfl, rfl⟩
    go_wp2_with fail
    refine (szFit ba b.length bc _ _ (by omega) (by omega) (by omega)).mono ?_
    rintro e w2 ⟨rfl, rfl⟩
    go_wp2_with fail
    have He := Lib.hid (eqDw (innV a b))
    have Hsp := Lib.hid (fun W B C v u (h1 : DSl W B v a) (h2 : DSl W C u b) => sinnSt B C v u a b W h1 h2 ha hb)
    have Him := Lib.hid (fun W B C v u (h1 : DSl W B v a) (h2 : DSl W C u b) => iinner B C v u a b W h1 h2 hEa hEb ha hb)
    generalize innV a b = r at *
    generalize innB a b = t at *
    refine (toDsB aa ac w.heap.size a _ (Hina.out.below Hb.out) Hb.out.size ha).mono ?_
    rintro e w3 ⟨vs0, rfl, hd3, hb3⟩
    have Hs0 := Lib.hid hd3.upto
    have Hb := Lib.hid (below_nx Hb.out hb3)
    have hz3 := hb3.size
    clear hb3 hd3
    go_wp2_with fail
    refine (toDsB ba bc w.heap.size b _ (Hinb.out.below Hb.out) Hb.out.size hb).mono ?_
    rintro e w4 ⟨vs1, rfl, hd4, hb4⟩
    have Hs1 := Lib.hid hd4.upto
    have Hs0 := Lib.hid (Hs0.out.below hb4)
    have Hb := Lib.hid (below_nx Hb.out hb4)
    have hz4 := hb4.size
    clear hb4 hd4
    go_wp2_with fail
    refine (Hsp.out _ _ _ _ _ Hs0.out.dsl Hs1.out.dsl).mono ?_
    rintro e w5 ⟨rfl, hb5⟩
    have hb5 := hb5.alloc hb5.size (.cells #[.int .i64 r.n.a, .int .i64 r.n.b, .int .i64 r.n.c, .int .i64 r.n.d, .int .i64 r.e] 60)
    have Hs0 := Lib.hid (Hs0.out.below hb5)
    have Hs1 := Lib.hid (Hs1.out.below hb5)
    have Hb := Lib.hid (below_nx Hb.out hb5)
    have hz5 := hb5.size
    have HBr0 := Lib.hid (heap_alloc_new w5 (.cells #[.int .i64 r.n.a, .int .i64 r.n.b, .int .i64 r.n.c, .int .i64 r.n.d, .int .i64 r.e] 60))
    clear hb5
    obtain ⟨b5_0a, b5_0b, b5_0c, b5_0d, b5_0e⟩ := blk_cells5 HBr0.out
    have bz5_0 := lt_of_block HBr0.out
    go_wp2_with fail
    refine (toDsB aa ac w.heap.size a _ (Hina.out.below Hb.out) Hb.out.size ha).mono ?_
    rintro e w6 ⟨vx0, rfl, hd6, hb6⟩
    clear b5_0a b5_0b b5_0c b5_0d b5_0e bz5_0
    have Hx0 := Lib.hid hd6.upto
    have HBr0 := Lib.hid (below_blk hb6 (lt_of_block HBr0.out) HBr0.out)
    have Hb := Lib.hid (below_nx Hb.out hb6)
    have hz6 := hb6.size
    clear hb6 hd6
    obtain ⟨b6_0a, b6_0b, b6_0c, b6_0d, b6_0e⟩ := blk_cells5 HBr0.out
    have bz6_0 := lt_of_block HBr0.out
    go_wp2_with fail
    refine (toDsB ba bc w.heap.size b _ (Hinb.out.below Hb.out) Hb.out.size hb).mono ?_
    rintro e w7 ⟨vx1, rfl, hd7, hb7⟩
    clear b6_0a b6_0b b6_0c b6_0d b6_0e bz6_0
    have Hx1 := Lib.hid hd7.upto
    have Hx0 := Lib.hid (Hx0.out.below hb7)
    have HBr0 := Lib.hid (below_blk hb7 (lt_of_block HBr0.out) HBr0.out)
    have Hb := Lib.hid (below_nx Hb.out hb7)
    have hz7 := hb7.size
    clear hb7 hd7
    obtain ⟨b7_0a, b7_0b, b7_0c, b7_0d, b7_0e⟩ := blk_cells5 HBr0.out
    have bz7_0 := lt_of_block HBr0.out
    go_wp2_with fail
    refine (Him.out _ _ _ _ _ Hx0.out.dsl Hx1.out.dsl).mono ?_
    rintro e w8 ⟨rfl, hb8⟩
    clear b7_0a b7_0b b7_0c b7_0d b7_0e bz7_0
    have hb8 := hb8.alloc hb8.size (.cells #[.int .i64 r.n.a, .int .i64 r.n.b, .int .i64 r.n.c, .int .i64 r.n.d, .int .i64 r.e] 60)
    have Hx0 := Lib.hid (Hx0.out.below hb8)
    have Hx1 := Lib.hid (Hx1.out.below hb8)
    have HBr0 := Lib.hid (below_blk hb8 (lt_of_block HBr0.out) HBr0.out)
    have Hb := Lib.hid (below_nx Hb.out hb8)
    have hz8 := hb8.size
    have HBr1 := Lib.hid (heap_alloc_new w8 (.cells #[.int .i64 r.n.a, .int .i64 r.n.b, .int .i64 r.n.c, .int .i64 r.n.d, .int .i64 r.e] 60))
    clear hb8
    obtain ⟨b8_0a, b8_0b, b8_0c, b8_0d, b8_0e⟩ := blk_cells5 HBr0.out
    have bz8_0 := lt_of_block HBr0.out
    obtain ⟨b8_1a, b8_1b, b8_1c, b8_1d, b8_1e⟩ := blk_cells5 HBr1.out
    have bz8_1 := lt_of_block HBr1.out
    go_wp2_with fail
    refine (He.out _).mono ?_
    rintro e w9 ⟨rfl, hb9⟩
    clear b8_0a b8_0b b8_0c b8_0d b8_0e bz8_0 b8_1a b8_1b b8_1c b8_1d b8_1e bz8_1
    have Hx0 := Lib.hid (Hx0.out.below hb9)
    have Hx1 := Lib.hid (Hx1.out.below hb9)
    have HBr0 := Lib.hid (below_blk hb9 (lt_of_block HBr0.out) HBr0.out)
    have HBr1 := Lib.hid (below_blk hb9 (lt_of_block HBr1.out) HBr1.out)
    have Hb := Lib.hid (below_nx Hb.out hb9)
    have hz9 := hb9.size
    clear hb9
    obtain ⟨b9_0a, b9_0b, b9_0c, b9_0d, b9_0e⟩ := blk_cells5 HBr0.out
    have bz9_0 := lt_of_block HBr0.out
    obtain ⟨b9_1a, b9_1b, b9_1c, b9_1d, b9_1e⟩ := blk_cells5 HBr1.out
    have bz9_1 := lt_of_block HBr1.out
    go_wp2_with fail
    refine (toDsB aa ac w.heap.size a _ (Hina.out.below Hb.out) Hb.out.size ha).mono ?_
    rintro e w10 ⟨vs2, rfl, hd10, hb10⟩
    clear b9_0a b9_0b b9_0c b9_0d b9_0e bz9_0 b9_1a b9_1b b9_1c b9_1d b9_1e bz9_1
    have Hs2 := Lib.hid hd10.upto
    have Hx0 := Lib.hid (Hx0.out.below hb10)
    have Hx1 := Lib.hid (Hx1.out.below hb10)
    have HBr0 := Lib.hid (below_blk hb10 (lt_of_block HBr0.out) HBr0.out)
    have HBr1 := Lib.hid (below_blk hb10 (lt_of_block HBr1.out) HBr1.out)
    have Hb := Lib.hid (below_nx Hb.out hb10)
    have hz10 := hb10.size
    clear hb10 hd10
    obtain ⟨b10_0a, b10_0b, b10_0c, b10_0d, b10_0e⟩ := blk_cells5 HBr0.out
    have bz10_0 := lt_of_block HBr0.out
    obtain ⟨b10_1a, b10_1b, b10_1c, b10_1d, b10_1e⟩ := blk_cells5 HBr1.out
    have bz10_1 := lt_of_block HBr1.out
    go_wp2_with fail
    refine (eqDs _ _ _ _ a _ Hx0.out.dsl Hs2.out.dsl ha).mono ?_
    rintro e w11 ⟨rfl, hb11⟩
    clear b10_0a b10_0b b10_0c b10_0d b10_0e bz10_0 b10_1a b10_1b b10_1c b10_1d b10_1e bz10_1
    have Hx0 := Lib.hid (Hx0.out.below hb11)
    have Hx1 := Lib.hid (Hx1.out.below hb11)
    have Hs2 := Lib.hid (Hs2.out.below hb11)
    have HBr0 := Lib.hid (below_blk hb11 (lt_of_block HBr0.out) HBr0.out)
    have HBr1 := Lib.hid (below_blk hb11 (lt_of_block HBr1.out) HBr1.out)
    have Hb := Lib.hid (below_nx Hb.out hb11)
    have hz11 := hb11.size
    clear hb11
    obtain ⟨b11_0a, b11_0b, b11_0c, b11_0d, b11_0e⟩ := blk_cells5 HBr0.out
    have bz11_0 := lt_of_block HBr0.out
    obtain ⟨b11_1a, b11_1b, b11_1c, b11_1d, b11_1e⟩ := blk_cells5 HBr1.out
    have bz11_1 := lt_of_block HBr1.out
    go_wp2_with fail
    refine (toDsB ba bc w.heap.size b _ (Hinb.out.below Hb.out) Hb.out.size hb).mono ?_
    rintro e w12 ⟨vs3, rfl, hd12, hb12⟩
    clear b11_0a b11_0b b11_0c b11_0d b11_0e bz11_0 b11_1a b11_1b b11_1c b11_1d b11_1e bz11_1
    have Hs3 := Lib.hid hd12.upto
    have Hx0 := Lib.hid (Hx0.out.below hb12)
    have Hx1 := Lib.hid (Hx1.out.below hb12)
    have HBr0 := Lib.hid (below_blk hb12 (lt_of_block HBr0.out) HBr0.out)
    have HBr1 := Lib.hid (below_blk hb12 (lt_of_block HBr1.out) HBr1.out)
    have Hb := Lib.hid (below_nx Hb.out hb12)
    have hz12 := hb12.size
    clear hb12 hd12
    obtain ⟨b12_0a, b12_0b, b12_0c, b12_0d, b12_0e⟩ := blk_cells5 HBr0.out
    have bz12_0 := lt_of_block HBr0.out
    obtain ⟨b12_1a, b12_1b, b12_1c, b12_1d, b12_1e⟩ := blk_cells5 HBr1.out
    have bz12_1 := lt_of_block HBr1.out
    go_wp2_with fail
    refine (eqDs _ _ _ _ b _ Hx1.out.dsl Hs3.out.dsl hb).mono ?_
    rintro e w13 ⟨rfl, hb13⟩
    clear b12_0a b12_0b b12_0c b12_0d b12_0e bz12_0 b12_1a b12_1b b12_1c b12_1d b12_1e bz12_1
    have Hx0 := Lib.hid (Hx0.out.below hb13)
    have Hx1 := Lib.hid (Hx1.out.below hb13)
    have Hs3 := Lib.hid (Hs3.out.below hb13)
    have HBr0 := Lib.hid (below_blk hb13 (lt_of_block HBr0.out) HBr0.out)
    have HBr1 := Lib.hid (below_blk hb13 (lt_of_block HBr1.out) HBr1.out)
    have Hb := Lib.hid (below_nx Hb.out hb13)
    have hz13 := hb13.size
    clear hb13
    obtain ⟨b13_0a, b13_0b, b13_0c, b13_0d, b13_0e⟩ := blk_cells5 HBr0.out
    have bz13_0 := lt_of_block HBr0.out
    obtain ⟨b13_1a, b13_1b, b13_1c, b13_1d, b13_1e⟩ := blk_cells5 HBr1.out
    have bz13_1 := lt_of_block HBr1.out
    go_wp2_with fail
    go_ret
    exact ⟨rfl, Hb.out⟩
  · have hma := hina.1
    have hmb := hinb.1
    clear hina hinb
    by_cases ha : a.length ≤ 1048576
    · go_enter Try.func18, Try.ntmps18
      go_wp2_with fail
      refine (szFit aa a.length ac 1048576 _ (by omega) (by omega) (by omega)).mono ?_
      rintro e w1 ⟨rfl, rfl⟩
      go_wp2_with fail
      refine (szBig ba b.length bc _ _ hmb (by omega) (by omega) (by omega)).mono ?_
      rintro e w1 ⟨rfl, rfl⟩
      go_wp2_with fail
      go_ret
      exact ⟨rfl, Below.refl _ _⟩
    · go_enter Try.func18, Try.ntmps18
      go_wp2_with fail
      refine (szBig aa a.length ac 1048576 _ hma (by omega) (by omega) (by omega)).mono ?_
      rintro e w1 ⟨rfl, rfl⟩
      go_wp2_with fail
      go_ret
      exact ⟨rfl, Below.refl _ _⟩

open Go.ChangeMaps (open_string shut_string)
theorem laidOut : laidOutB Try.prog = true := by kernel_rfl
theorem own : ownKnob Try.prog.godebug = none := by kernel_rfl
set_option maxRecDepth 100000 in
/-- What the walk gives, for every argument. -/
theorem contract (H : Type) (enc : TypeId × Value → H) (W : World) (base : Nat) (args : Array Value) (ds gs : List (DataW H)) (before : List MemPlace)
    (hval : ∀ (j : Nat) t v, Try.f18.params[j]? = some t → args[j]? = some v → Value.okWide Try.prog W .any base t v)
    (hW : DataW.Whole enc Try.prog Try.f18.params.toList Rows.fnExactInnerProductSpec.vars false W args.toList ds gs before) :
    Calls Try.prog 18 args W fun e W' => ∃ v, e = .returned v ∧ Rows.fnExactInnerProductSpec.post enc Try.prog Try.f18 false true false false W args v W' := by
  have hW' := hW
  obtain ⟨p, q, hA0, hV, rfl, hfz, hnd⟩ := hW
  have hA : DataW.TrodAll enc Try.prog W 0 (fun _ => true) true Try.f18.params.toList args.toList ds p := hA0
  rw [Try.params18] at hA hval
  obtain ⟨v0, vs0, d0, ds0, p0, q0, hargs, rfl, rfl, h0, r0⟩ := trodAll_cons hA
  obtain ⟨v1, vs1, d1, ds1, p1, q1, rfl, rfl, rfl, h1, r1⟩ := trodAll_cons r0
  obtain ⟨rfl, rfl, rfl⟩ := trodAll_nil r1
  obtain rfl : args = #[v0, v1] := by cases args; simp_all
  obtain ⟨rfl, rfl⟩ := trodVars_none hV
  have k0 := h0
  have lt0 : ∀ x ∈ p0, x.block < W.heap.size := by obtain ⟨m, hm⟩ := k0; exact DataW.trod_lt m _ _ _ hm
  obtain ⟨aa, ac, a, rfl, ah⟩ := open_ds (hval 0 48 v0 rfl rfl) h0
  have k1 := h1
  have lt1 : ∀ x ∈ p1, x.block < W.heap.size := by obtain ⟨m, hm⟩ := k1; exact DataW.trod_lt m _ _ _ hm
  obtain ⟨ba, bc, b, rfl, bh⟩ := open_ds (hval 1 48 v1 rfl rfl) h1
  clear hA0
  simp only [List.append_nil] at hW'
  refine (walk aa ac a ba bc b W ah bh).mono fun e W' ⟨he, hg⟩ => ?_
  subst he
  exact ⟨_, rfl, _, _, _, [], _, [], hW', trodAll_mk1 (shut_bool Try.underlying4 _), (trodAll_cons_mk (Below.trod laidOut (by kernel_rfl) (of_decide_eq_true (by kernel_rfl)) k0 hg lt0) (trodAll_cons_mk (Below.trod laidOut (by kernel_rfl) (of_decide_eq_true (by kernel_rfl)) k1 hg lt1) trodAll_mk0)), rfl, hg.frame _, fun h => by cases h⟩

set_option maxRecDepth 100000 in
theorem lifted (os : Os) (started : os.Started) (H : Type) (enc : TypeId × Value → H) :
    ReturnsInHanded {} Try.checked os 18 .any (Rows.fnExactInnerProductSpec.pre6 enc Try.prog Try.f18 Rows.fnExactInnerProductRow.domain false) (Rows.fnExactInnerProductSpec.post enc Try.prog Try.f18 false true false false) := by
  refine returnsInHanded_of_change (C := Try.checked) own started (by kernel_rfl) Try.func18
    (ChangeSpec.witness6 (enc := enc) (C := Try.checked) false ⟨#[], #[.slice none 0 0, .slice none 0 0], []⟩ 8 (by kernel_rfl) (by kernel_rfl) (by kernel_rfl) (by kernel_rfl)) ?_
  intro W base args ds gs before hval hW _ _
  exact contract H enc W base args ds gs before hval hW
theorem closedFacts : joinedFacts Try.pinned.checked.prog 18 Try.f18 Rows.fnExactInnerProductSpec Rows.fnExactInnerProductRow = true := by
  unfold joinedFacts
  rw [init_may, init_facts.2.1, init_facts.2.2]
  kernel_rfl
theorem said : Rows.FnExactInnerProductSaid :=
  OpenClaim.holds_of_wide 18 Try.f18 rfl rfl rfl rfl rfl rfl rfl ⟨rfl, rfl, rfl, rfl, rfl⟩ rfl rfl rfl rfl rfl (by kernel_rfl) Try.func18 closedFacts
    (of_decide_eq_true (by kernel_rfl)) (by unfold Func.isWrapper; first | (rw [if_pos (by decide +kernel)]; kernel_rfl) | (rw [if_neg (by decide +kernel)]; exact ⟨rfl, rfl⟩))
    (fun os started H enc _ => lifted os started H enc)
end Go.Proofs.Ytggjbpgibdpflaa.fnExactInnerProduct
