/- The law FnControlled: a controlled gate does nothing if the control is 0 and performs the gate exactly if it is 1, at every code. No condition. -/
import Derived.Test.YtlmiebeffdcfhaaGreatBaseC01
import Derived.Test.YtlmiebeffdcfhaaGreatCtKg
import Derived.Test.YtlmiebeffdcfhaaGreatCtKm
import Derived.Test.YtlmiebeffdcfhaaGreatCtM
import Derived.Test.YtlmiebeffdcfhaaGreatBaseC08
import Derived.Test.YtlmiebeffdcfhaaGreatBaseC07
import Derived.Test.YtlmiebeffdcfhaaGreatBaseB20
import Derived.Test.YtlmiebeffdcfhaaGreatBaseB15
import Derived.Lib.SmallJoins
import Derived.WalkKit
import Derived.ProofKit
import Derived.OpenShut
import Derived.Deep.DeepHandedRow
import Derived.Lib.LaidTab
import Derived.LaidMore
import Derived.LaidHandle
import Derived.Lay
import Derived.Stop.LaidErr
namespace Go.Proofs.YtlmiebeffdcfhaaGreat.fnControlled
open Go.ChangeShapes Go.WideShapes Go.ChangeAt Go.RowKit Go.Lib
attribute [local irreducible] World.cell?
set_option maxRecDepth 100000 in
set_option maxHeartbeats 12800000 in
theorem core (a0 : Option Addr) (len cap : Nat) (hs : len ≤ 1048576) (_ : len ≤ cap) (w : World) (hcode : CodeAt w w.heap.size a0 len) :
    Calls Tryz.prog 3 #[.slice a0 len cap] w fun e w' => e = .returned (.bool true) ∧ Below w.heap.size w w' := by
  have Hc := Lib.hid hcode
  have Hb := Lib.hid (Below.refl w.heap.size w)
  clear hcode
  go_enter Tryz.func3, Tryz.ntmps3
  go_wp2_with (go_at_call 6; go_in)
  refine (drawCtG a0 len cap _ Hc.out).mono ?_
  rintro e w1 ⟨⟨q, g, rfl, q0, q1, hgi⟩, hb1⟩
  have HA := Lib.hid (heap_alloc_new w1 (.cells #[.int .i64 g.k, .int .i64 g.a, .int .i64 g.b, .int .i64 g.c] 25))
  have Hb := Lib.hid (below_nx Hb.out hb1)
  have hs1 := Hb.out.size
  have Hb := Lib.hid (Hb.out.alloc hs1 (.cells #[.int .i64 g.k, .int .i64 g.a, .int .i64 g.b, .int .i64 g.c] 25))
  have Hi := Lib.hid (fun W => ictG q g W)
  have Hs := Lib.hid (fun W => sctG q g W)
  clear hb1 hgi hs1 q0 q1
  obtain ⟨c0, c1, c2, c3⟩ := blk_cells HA.out
  have hxl := lt_of_block HA.out
  cases hB : ctB q g with
  | false =>
    rw [hB, show ctR q g = [] by unfold ctR; rw [hB]; rfl] at Hi Hs
    clear hB
    go_wp2_with fail
    refine (Hi.out _).mono ?_
    rintro e w2 ⟨v, rfl, hd2, hb2⟩
    have HR := Lib.hid hd2
    obtain ⟨p2, c2', rfl, -, -⟩ := id hd2
    have Hb := Lib.hid (below_nx Hb.out hb2)
    have HA := Lib.hid (below_blk hb2 (lt_of_block HA.out) HA.out)
    clear c0 c1 c2 c3 hxl
    obtain ⟨c0, c1, c2, c3⟩ := blk_cells HA.out
    have hxl := lt_of_block HA.out
    clear hb2 hd2
    go_wp2_with fail
    refine (Hs.out _).mono ?_
    rintro e w3 ⟨u, rfl, hd3, hb3⟩
    have HR := Lib.hid (HR.out.below hb3)
    have HU := Lib.hid hd3
    obtain ⟨p3, c3', rfl, -, -⟩ := id hd3
    have Hb := Lib.hid (below_nx Hb.out hb3)
    have HA := Lib.hid (below_blk hb3 (lt_of_block HA.out) HA.out)
    clear c0 c1 c2 c3 hxl
    obtain ⟨c0, c1, c2, c3⟩ := blk_cells HA.out
    have hxl := lt_of_block HA.out
    clear hb3 hd3
    go_wp2_with fail
    refine (lsame _ _ _ _ [] _ HR.out HU.out (Nat.zero_le _)).mono ?_
    rintro e w4 ⟨rfl, hb4⟩
    have HR := Lib.hid (HR.out.below hb4)
    have HU := Lib.hid (HU.out.below hb4)
    have Hb := Lib.hid (below_nx Hb.out hb4)
    have HA := Lib.hid (below_blk hb4 (lt_of_block HA.out) HA.out)
    clear c0 c1 c2 c3 hxl
    obtain ⟨c0, c1, c2, c3⟩ := blk_cells HA.out
    have hxl := lt_of_block HA.out
    clear hb4
    go_wp2_with fail
    first | go_ret | go_returns
    exact ⟨rfl, Hb.out⟩
  | true =>
    obtain ⟨hg4, hcB, hM, hE⟩ := law_ct (ctB_iff.1 hB)
    rw [hB, show ctR q g = ctL q g by unfold ctR; rw [hB]; rfl] at Hi Hs
    have hl7 := ctL_len q g
    have hbd : MBd (gmM g 4) := by
      have h := (cir_one (g := g) (m := 4) hg4).2
      rw [show gmM g 4 = cirM [g] 4 from h.symm]
      exact cirM_bd (by omega)
    obtain ⟨hx1, hx2, -⟩ := ctM_amps q (gmM g 4)
    have Hgm := Lib.hid (fun W => smatG g 4 W (by omega) (by omega))
    rw [hg4] at Hgm
    have Hcm := Lib.hid (fun P Q v W (h : DSM W P Q v (gmM g 4)) => ictM P Q q v (gmM g 4) W h (fun r hr => (hbd.2 r hr).1) (by have := hbd.1; omega) hbd.amps)
    rw [hM] at Hcm
    have Hci := Lib.hid (fun W B v (h : gtE.Sl W B v (ctL q g)) => icirc B 4 v (ctL q g) W h (by omega) (by omega) (by omega))
    rw [hcB, hE] at Hci
    have Heq := Lib.hid (fun P Q R S v u W (h1 : DSM W P Q v (ctM q (gmM g 4))) (h2 : DSM W R S u (ctM q (gmM g 4))) => sequalMt P Q R S v u _ _ W h1 h2 (by omega) (by omega) (by omega) (by omega))
    simp only [decide_true] at Heq
    have hrl : (ctL q g).length ≤ 16777216 := by omega
    generalize ctM q (gmM g 4) = X at *
    generalize gmM g 4 = M at *
    generalize ctL q g = R at *
    clear hB hg4 hcB hM hE hl7 hbd hx1 hx2
    go_wp2_with fail
    refine (Hi.out _).mono ?_
    rintro e w2 ⟨v, rfl, hd2, hb2⟩
    have HR := Lib.hid hd2
    obtain ⟨p2, c2', rfl, -, -⟩ := id hd2
    have Hb := Lib.hid (below_nx Hb.out hb2)
    have HA := Lib.hid (below_blk hb2 (lt_of_block HA.out) HA.out)
    clear c0 c1 c2 c3 hxl
    obtain ⟨c0, c1, c2, c3⟩ := blk_cells HA.out
    have hxl := lt_of_block HA.out
    clear hb2 hd2
    go_wp2_with fail
    refine (Hs.out _).mono ?_
    rintro e w3 ⟨u, rfl, hd3, hb3⟩
    have HR := Lib.hid (HR.out.below hb3)
    have HU := Lib.hid hd3
    obtain ⟨p3, c3', rfl, -, -⟩ := id hd3
    have Hb := Lib.hid (below_nx Hb.out hb3)
    have HA := Lib.hid (below_blk hb3 (lt_of_block HA.out) HA.out)
    clear c0 c1 c2 c3 hxl
    obtain ⟨c0, c1, c2, c3⟩ := blk_cells HA.out
    have hxl := lt_of_block HA.out
    clear hb3 hd3
    go_wp2_with fail
    refine (lsame _ _ _ _ R _ HR.out HU.out hrl).mono ?_
    rintro e w4 ⟨rfl, hb4⟩
    have HR := Lib.hid (HR.out.below hb4)
    have HU := Lib.hid (HU.out.below hb4)
    have Hb := Lib.hid (below_nx Hb.out hb4)
    have HA := Lib.hid (below_blk hb4 (lt_of_block HA.out) HA.out)
    clear c0 c1 c2 c3 hxl
    obtain ⟨c0, c1, c2, c3⟩ := blk_cells HA.out
    have hxl := lt_of_block HA.out
    clear hb4
    go_wp2_with fail
    refine (Hgm.out _).mono ?_
    rintro e w5 ⟨⟨m, rfl, hd5⟩, hb5⟩
    have HR := Lib.hid (HR.out.below hb5)
    have HU := Lib.hid (HU.out.below hb5)
    have HM := Lib.hid hd5
    have Hb := Lib.hid (below_nx Hb.out hb5)
    have HA := Lib.hid (below_blk hb5 (lt_of_block HA.out) HA.out)
    clear c0 c1 c2 c3 hxl
    obtain ⟨c0, c1, c2, c3⟩ := blk_cells HA.out
    have hxl := lt_of_block HA.out
    clear hb5 hd5
    go_wp2_with fail
    refine (Hcm.out _ _ _ _ HM.out).mono ?_
    rintro e w6 ⟨c, rfl, hd6, hb6⟩
    have HR := Lib.hid (HR.out.below hb6)
    have HU := Lib.hid (HU.out.below hb6)
    have HM := Lib.hid (HM.out.below hb6)
    have HC := Lib.hid hd6
    have Hb := Lib.hid (below_nx Hb.out hb6)
    have HA := Lib.hid (below_blk hb6 (lt_of_block HA.out) HA.out)
    clear c0 c1 c2 c3 hxl
    obtain ⟨c0, c1, c2, c3⟩ := blk_cells HA.out
    have hxl := lt_of_block HA.out
    clear hb6 hd6
    go_wp2_with fail
    refine (Hci.out _ _ _ HR.out).mono ?_
    rintro e w7 ⟨⟨x, rfl, hd7⟩, hb7⟩
    have HR := Lib.hid (HR.out.below hb7)
    have HU := Lib.hid (HU.out.below hb7)
    have HM := Lib.hid (HM.out.below hb7)
    have HC := Lib.hid (HC.out.below hb7)
    have HX := Lib.hid hd7
    have Hb := Lib.hid (below_nx Hb.out hb7)
    have HA := Lib.hid (below_blk hb7 (lt_of_block HA.out) HA.out)
    clear c0 c1 c2 c3 hxl
    obtain ⟨c0, c1, c2, c3⟩ := blk_cells HA.out
    have hxl := lt_of_block HA.out
    clear hb7 hd7
    go_wp2_with fail
    refine (Heq.out _ _ _ _ _ _ _ HX.out HC.out).mono ?_
    rintro e w8 ⟨rfl, hb8⟩
    have HR := Lib.hid (HR.out.below hb8)
    have HU := Lib.hid (HU.out.below hb8)
    have HM := Lib.hid (HM.out.below hb8)
    have HC := Lib.hid (HC.out.below hb8)
    have HX := Lib.hid (HX.out.below hb8)
    have Hb := Lib.hid (below_nx Hb.out hb8)
    have HA := Lib.hid (below_blk hb8 (lt_of_block HA.out) HA.out)
    clear c0 c1 c2 c3 hxl
    obtain ⟨c0, c1, c2, c3⟩ := blk_cells HA.out
    have hxl := lt_of_block HA.out
    clear hb8
    go_wp2_with fail
    first | go_ret | go_returns
    exact ⟨rfl, Hb.out⟩
set_option maxRecDepth 100000 in
set_option maxHeartbeats 400000 in
theorem walk (a0 : Option Addr) (len cap : Nat) (w : World) (hm : len ≤ maxLen) (hlc : len ≤ cap) (hc : len ≤ 1048576 → CodeAt w w.heap.size a0 len) :
    Calls Tryz.prog 3 #[.slice a0 len cap] w fun e w' => e = .returned (.bool true) ∧ Below w.heap.size w w' := by
  by_cases hs : len ≤ 1048576
  · exact core a0 len cap hs hlc w (hc hs)
  · unfold maxLen at hm
    clear hc
    go_enter Tryz.func3, Tryz.ntmps3
    go_wp2_with (go_at_call 6; go_in)
    go_ret
    exact ⟨rfl, Below.refl _ _⟩
open Go.ChangeMaps (open_string shut_string)
theorem laidOut : laidOutB Tryz.prog = true := by kernel_rfl
theorem own : ownKnob Tryz.prog.godebug = none := by kernel_rfl
set_option maxRecDepth 100000 in
/-- What the walk gives, for every argument. -/
theorem contract (H : Type) (enc : TypeId × Value → H) (W : World) (base : Nat) (args : Array Value) (ds gs : List (DataW H)) (before : List MemPlace)
    (hval : ∀ (j : Nat) t v, Tryz.f3.params[j]? = some t → args[j]? = some v → Value.okWide Tryz.prog W .any base t v)
    (hW : DataW.Whole enc Tryz.prog Tryz.f3.params.toList Rows.fnControlledSpec.vars false W args.toList ds gs before) :
    Calls Tryz.prog 3 args W fun e W' => ∃ v, e = .returned v ∧ Rows.fnControlledSpec.post enc Tryz.prog Tryz.f3 false true false false W args v W' := by
  have hW' := hW
  obtain ⟨p, q, hA0, hV, rfl, hfz, hnd⟩ := hW
  have hA : DataW.TrodAll enc Tryz.prog W 0 (fun _ => true) true Tryz.f3.params.toList args.toList ds p := hA0
  rw [Tryz.params3] at hA hval
  obtain ⟨v0, vs0, d0, ds0, p0, q0, hargs, rfl, rfl, h0, r0⟩ := trodAll_cons hA
  obtain ⟨rfl, rfl, rfl⟩ := trodAll_nil r0
  obtain rfl : args = #[v0] := by cases args; simp_all
  obtain ⟨rfl, rfl⟩ := trodVars_none hV
  obtain ⟨ca, cl, cc, rfl⟩ := okWide_slice Tryz.underlying22 (hval 0 22 v0 rfl rfl)
  have k0 := h0
  have lt0 : ∀ x ∈ p0, x.block < W.heap.size := by obtain ⟨m, hm⟩ := k0; exact DataW.trod_lt m _ _ _ hm
  have ch : (cl ≤ 1048576 → CodeAt W W.heap.size ca cl) ∧ cl ≤ maxLen ∧ cl ≤ cc := by
    obtain ⟨fuel, hf⟩ := h0
    rcases open_ints Tryz.underlying22 Tryz.underlying5 (by kernel_rfl) hf with ⟨hcs, _⟩ | ⟨x, l, c, zs, hcs, _, hl, hm, hz, _, hcell, hwz⟩
    · simp [Value.cells] at hcs
      obtain ⟨rfl, rfl, rfl⟩ := hcs
      exact ⟨fun _ => ⟨by omega, fun h => absurd h (by omega)⟩, Nat.zero_le _, Nat.le_refl _⟩
    · simp [Value.cells] at hcs
      obtain ⟨rfl, rfl, rfl⟩ := hcs
      have hz2 : zs.length = cc := by simpa using hz
      exact ⟨fun hs => code_of hs (by omega) hcell hwz, by omega, hl⟩
  clear hA0
  simp only [List.append_nil] at hW'
  refine (walk ca cl cc W ch.2.1 ch.2.2 ch.1).mono fun e W' ⟨he, hg⟩ => ?_
  subst he
  exact ⟨_, rfl, _, _, _, [], _, [], hW', trodAll_mk1 (shut_bool Tryz.underlying4 _), (trodAll_cons_mk (Below.trod laidOut (by kernel_rfl) (of_decide_eq_true (by kernel_rfl)) k0 hg lt0) trodAll_mk0), rfl, hg.frame _, fun h => by cases h⟩
set_option maxRecDepth 100000 in
theorem lifted (os : Os) (started : os.Started) (H : Type) (enc : TypeId × Value → H) :
    ReturnsInHanded {} Tryz.checked os 3 .any (Rows.fnControlledSpec.pre6 enc Tryz.prog Tryz.f3 Rows.fnControlledRow.domain false) (Rows.fnControlledSpec.post enc Tryz.prog Tryz.f3 false true false false) := by
  refine returnsInHanded_of_change (C := Tryz.checked) own started (by kernel_rfl) Tryz.func3
    (ChangeSpec.witness6 (enc := enc) (C := Tryz.checked) false ⟨#[], #[.slice none 0 0], []⟩ 8 (by kernel_rfl) (by kernel_rfl) (by kernel_rfl) (by kernel_rfl)) ?_
  intro W base args ds gs before hval hW _ _
  exact contract H enc W base args ds gs before hval hW
theorem closedFacts : joinedFacts Tryz.pinned.checked.prog 3 Tryz.f3 Rows.fnControlledSpec Rows.fnControlledRow = true := by
  unfold joinedFacts
  rw [init_may, init_facts.2.1, init_facts.2.2]
  kernel_rfl
theorem said : Rows.FnControlledSaid :=
  OpenClaim.holds_of_wide 3 Tryz.f3 rfl rfl rfl rfl rfl rfl rfl ⟨rfl, rfl, rfl, rfl, rfl⟩ rfl rfl rfl rfl rfl (by kernel_rfl) Tryz.func3 closedFacts
    (of_decide_eq_true (by kernel_rfl)) (by unfold Func.isWrapper; first | (rw [if_pos (by decide +kernel)]; kernel_rfl) | (rw [if_neg (by decide +kernel)]; exact ⟨rfl, rfl⟩))
    (fun os started H enc _ => lifted os started H enc)
end Go.Proofs.YtlmiebeffdcfhaaGreat.fnControlled
