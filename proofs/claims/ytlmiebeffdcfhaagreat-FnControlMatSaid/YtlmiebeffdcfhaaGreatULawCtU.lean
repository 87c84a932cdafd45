/- The law FnControlMat: the controlled matrix of a unitary matrix is unitary, at every code. No condition. -/
import Derived.Test.YtlmiebeffdcfhaaGreatUBaseC01
import Derived.Test.YtlmiebeffdcfhaaGreatUCtKm
import Derived.Test.YtlmiebeffdcfhaaGreatUCtN
import Derived.Test.YtlmiebeffdcfhaaGreatUBaseC10
import Derived.Test.YtlmiebeffdcfhaaGreatUBaseC05
import Derived.Test.YtlmiebeffdcfhaaGreatUBaseB15
import Derived.Test.YtlmiebeffdcfhaaGreatUBaseC09
import Derived.Lib.SmallJoins
import Derived.WalkKit
import Derived.ProofKit
import Derived.OpenShut
import Derived.Deep.DeepHandedRow
import Derived.Lib.LaidTab
import Derived.LaidMore
import Derived.LaidHandle
import Derived.Lay
import Derived.Stop.LaidErr
namespace Go.Proofs.YtlmiebeffdcfhaaGreat.fnControlMat
open Go.ChangeShapes Go.WideShapes Go.ChangeAt Go.RowKit Go.Lib
attribute [local irreducible] World.cell?
set_option maxRecDepth 100000 in
set_option maxHeartbeats 12800000 in
theorem core (a0 : Option Addr) (len cap : Nat) (hs : len ≤ 1048576) (_ : len ≤ cap) (w : World) (hcode : CodeAt w w.heap.size a0 len) :
    Calls Tryz.prog 5 #[.slice a0 len cap] w fun e w' => e = .returned (.bool true) ∧ Below w.heap.size w w' := by
  have Hc := Lib.hid hcode
  have Hb := Lib.hid (Below.refl w.heap.size w)
  clear hcode
  go_enter Tryz.func5, Tryz.ntmps5
  go_wp2_with (go_at_call 6; go_in)
  refine (drawCtM a0 len cap _ Hc.out).mono ?_
  rintro e w1 ⟨⟨q, vm, M, rfl, q0, q1, hbd, hd1⟩, hb1⟩
  have HM := Lib.hid hd1
  obtain ⟨pM, qM, rfl, -, -⟩ := id hd1
  have Hb := Lib.hid (below_nx Hb.out hb1)
  have hm1 := hbd.amps
  have hm0 := hbd.1
  have he : EbM M := fun r hr => (hbd.2 r hr).1
  obtain ⟨hx1, hx2, hx3⟩ := ctM_amps q M
  have Hi := Lib.hid (fun P Q v W (h : DSM W P Q v M) => ictM P Q q v M W h he (by omega) hm1)
  have Hs := Lib.hid (fun P Q v W (h : DSM W P Q v M) => sctM P Q q v M W h (by omega) hm1)
  have Hsu := Lib.hid (fun P Q v W (h : DSM W P Q v M) => suni P Q v M W h (by omega) hm1)
  have Heq := Lib.hid (fun P Q R S v u W (h1 : DSM W P Q v (ctM q M)) (h2 : DSM W R S u (ctM q M)) => sequalMt P Q R S v u _ _ W h1 h2 (by omega) (by omega) (by omega) (by omega))
  simp only [decide_true] at Heq
  have Hiu := Lib.hid (fun P Q v W (h : DSM W P Q v (ctM q M)) => iuni P Q v (ctM q M) W h hx3 (by omega) (by omega))
  have HU := Lib.hid (fun h1 h2 => law_ctU (q := q) (M := M) h1 h2)
  clear hb1 hd1 hbd hm1 hm0 he hx1 hx2 hx3
  generalize uniB (ctM q M) = y at *
  generalize ctM q M = X at *
  generalize ctMB q M = t at *
  generalize uniB M = z at *
  cases t with
  | false =>
    go_wp2_with fail
    refine (Hi.out _ _ _ _ HM.out).mono ?_
    rintro e w2 ⟨c, rfl, hd2, hb2⟩
    have HM := Lib.hid (HM.out.below hb2)
    have HC := Lib.hid hd2
    obtain ⟨p2, c2', rfl, -, -⟩ := id hd2
    have Hb := Lib.hid (below_nx Hb.out hb2)
    clear hb2 hd2
    go_wp2_with fail
    refine (Hs.out _ _ _ _ HM.out).mono ?_
    rintro e w3 ⟨d, rfl, hd3, hb3⟩
    have HM := Lib.hid (HM.out.below hb3)
    have HC := Lib.hid (HC.out.below hb3)
    have HD := Lib.hid hd3
    obtain ⟨p3, c3', rfl, -, -⟩ := id hd3
    have Hb := Lib.hid (below_nx Hb.out hb3)
    clear hb3 hd3
    go_wp2_with fail
    refine (Heq.out _ _ _ _ _ _ _ HC.out HD.out).mono ?_
    rintro e w4 ⟨rfl, hb4⟩
    have HM := Lib.hid (HM.out.below hb4)
    have HC := Lib.hid (HC.out.below hb4)
    have HD := Lib.hid (HD.out.below hb4)
    have Hb := Lib.hid (below_nx Hb.out hb4)
    clear hb4
    go_wp2_with fail
    first | go_ret | go_returns
    exact ⟨rfl, Hb.out⟩
  | true =>
    cases z with
    | false =>
      go_wp2_with fail
      refine (Hi.out _ _ _ _ HM.out).mono ?_
      rintro e w2 ⟨c, rfl, hd2, hb2⟩
      have HM := Lib.hid (HM.out.below hb2)
      have HC := Lib.hid hd2
      obtain ⟨p2, c2', rfl, -, -⟩ := id hd2
      have Hb := Lib.hid (below_nx Hb.out hb2)
      clear hb2 hd2
      go_wp2_with fail
      refine (Hs.out _ _ _ _ HM.out).mono ?_
      rintro e w3 ⟨d, rfl, hd3, hb3⟩
      have HM := Lib.hid (HM.out.below hb3)
      have HC := Lib.hid (HC.out.below hb3)
      have HD := Lib.hid hd3
      obtain ⟨p3, c3', rfl, -, -⟩ := id hd3
      have Hb := Lib.hid (below_nx Hb.out hb3)
      clear hb3 hd3
      go_wp2_with fail
      refine (Heq.out _ _ _ _ _ _ _ HC.out HD.out).mono ?_
      rintro e w4 ⟨rfl, hb4⟩
      have HM := Lib.hid (HM.out.below hb4)
      have HC := Lib.hid (HC.out.below hb4)
      have HD := Lib.hid (HD.out.below hb4)
      have Hb := Lib.hid (below_nx Hb.out hb4)
      clear hb4
      go_wp2_with fail
      refine (Hsu.out _ _ _ _ HM.out).mono ?_
      rintro e w5 ⟨rfl, hb5⟩
      have HM := Lib.hid (HM.out.below hb5)
      have HC := Lib.hid (HC.out.below hb5)
      have HD := Lib.hid (HD.out.below hb5)
      have Hb := Lib.hid (below_nx Hb.out hb5)
      clear hb5
      go_wp2_with fail
      first | go_ret | go_returns
      exact ⟨rfl, Hb.out⟩
    | true =>
      obtain rfl := HU.out rfl rfl
      go_wp2_with fail
      refine (Hi.out _ _ _ _ HM.out).mono ?_
      rintro e w2 ⟨c, rfl, hd2, hb2⟩
      have HM := Lib.hid (HM.out.below hb2)
      have HC := Lib.hid hd2
      obtain ⟨p2, c2', rfl, -, -⟩ := id hd2
      have Hb := Lib.hid (below_nx Hb.out hb2)
      clear hb2 hd2
      go_wp2_with fail
      refine (Hs.out _ _ _ _ HM.out).mono ?_
      rintro e w3 ⟨d, rfl, hd3, hb3⟩
      have HM := Lib.hid (HM.out.below hb3)
      have HC := Lib.hid (HC.out.below hb3)
      have HD := Lib.hid hd3
      obtain ⟨p3, c3', rfl, -, -⟩ := id hd3
      have Hb := Lib.hid (below_nx Hb.out hb3)
      clear hb3 hd3
      go_wp2_with fail
      refine (Heq.out _ _ _ _ _ _ _ HC.out HD.out).mono ?_
      rintro e w4 ⟨rfl, hb4⟩
      have HM := Lib.hid (HM.out.below hb4)
      have HC := Lib.hid (HC.out.below hb4)
      have HD := Lib.hid (HD.out.below hb4)
      have Hb := Lib.hid (below_nx Hb.out hb4)
      clear hb4
      go_wp2_with fail
      refine (Hsu.out _ _ _ _ HM.out).mono ?_
      rintro e w5 ⟨rfl, hb5⟩
      have HM := Lib.hid (HM.out.below hb5)
      have HC := Lib.hid (HC.out.below hb5)
      have HD := Lib.hid (HD.out.below hb5)
      have Hb := Lib.hid (below_nx Hb.out hb5)
      clear hb5
      go_wp2_with fail
      refine (Hiu.out _ _ _ _ HC.out).mono ?_
      rintro e w6 ⟨rfl, hb6⟩
      have HM := Lib.hid (HM.out.below hb6)
      have HC := Lib.hid (HC.out.below hb6)
      have HD := Lib.hid (HD.out.below hb6)
      have Hb := Lib.hid (below_nx Hb.out hb6)
      clear hb6
      go_wp2_with fail
      first | go_ret | go_returns
      exact ⟨rfl, Hb.out⟩
set_option maxRecDepth 100000 in
set_option maxHeartbeats 400000 in
theorem walk (a0 : Option Addr) (len cap : Nat) (w : World) (hm : len ≤ maxLen) (hlc : len ≤ cap) (hc : len ≤ 1048576 → CodeAt w w.heap.size a0 len) :
    Calls Tryz.prog 5 #[.slice a0 len cap] w fun e w' => e = .returned (.bool true) ∧ Below w.heap.size w w' := by
  by_cases hs : len ≤ 1048576
  · exact core a0 len cap hs hlc w (hc hs)
  · unfold maxLen at hm
    clear hc
    go_enter Tryz.func5, Tryz.ntmps5
    go_wp2_with (go_at_call 6; go_in)
    go_ret
    exact ⟨rfl, Below.refl _ _⟩
open Go.ChangeMaps (open_string shut_string)
theorem laidOut : laidOutB Tryz.prog = true := by kernel_rfl
theorem own : ownKnob Tryz.prog.godebug = none := by kernel_rfl
set_option maxRecDepth 100000 in
/-- What the walk gives, for every argument. -/
theorem contract (H : Type) (enc : TypeId × Value → H) (W : World) (base : Nat) (args : Array Value) (ds gs : List (DataW H)) (before : List MemPlace)
    (hval : ∀ (j : Nat) t v, Tryz.f5.params[j]? = some t → args[j]? = some v → Value.okWide Tryz.prog W .any base t v)
    (hW : DataW.Whole enc Tryz.prog Tryz.f5.params.toList Rows.fnControlMatSpec.vars false W args.toList ds gs before) :
    Calls Tryz.prog 5 args W fun e W' => ∃ v, e = .returned v ∧ Rows.fnControlMatSpec.post enc Tryz.prog Tryz.f5 false true false false W args v W' := by
  have hW' := hW
  obtain ⟨p, q, hA0, hV, rfl, hfz, hnd⟩ := hW
  have hA : DataW.TrodAll enc Tryz.prog W 0 (fun _ => true) true Tryz.f5.params.toList args.toList ds p := hA0
  rw [Tryz.params5] at hA hval
  obtain ⟨v0, vs0, d0, ds0, p0, q0, hargs, rfl, rfl, h0, r0⟩ := trodAll_cons hA
  obtain ⟨rfl, rfl, rfl⟩ := trodAll_nil r0
  obtain rfl : args = #[v0] := by cases args; simp_all
  obtain ⟨rfl, rfl⟩ := trodVars_none hV
  obtain ⟨ca, cl, cc, rfl⟩ := okWide_slice Tryz.underlying22 (hval 0 22 v0 rfl rfl)
  have k0 := h0
  have lt0 : ∀ x ∈ p0, x.block < W.heap.size := by obtain ⟨m, hm⟩ := k0; exact DataW.trod_lt m _ _ _ hm
  have ch : (cl ≤ 1048576 → CodeAt W W.heap.size ca cl) ∧ cl ≤ maxLen ∧ cl ≤ cc := by
    obtain ⟨fuel, hf⟩ := h0
    rcases open_ints Tryz.underlying22 Tryz.underlying5 (by kernel_rfl) hf with ⟨hcs, _⟩ | ⟨x, l, c, zs, hcs, _, hl, hm, hz, _, hcell, hwz⟩
    · simp [Value.cells] at hcs
      obtain ⟨rfl, rfl, rfl⟩ := hcs
      exact ⟨fun _ => ⟨by omega, fun h => absurd h (by omega)⟩, Nat.zero_le _, Nat.le_refl _⟩
    · simp [Value.cells] at hcs
      obtain ⟨rfl, rfl, rfl⟩ := hcs
      have hz2 : zs.length = cc := by simpa using hz
      exact ⟨fun hs => code_of hs (by omega) hcell hwz, by omega, hl⟩
  clear hA0
  simp only [List.append_nil] at hW'
  refine (walk ca cl cc W ch.2.1 ch.2.2 ch.1).mono fun e W' ⟨he, hg⟩ => ?_
  subst he
  exact ⟨_, rfl, _, _, _, [], _, [], hW', trodAll_mk1 (shut_bool Tryz.underlying4 _), (trodAll_cons_mk (Below.trod laidOut (by kernel_rfl) (of_decide_eq_true (by kernel_rfl)) k0 hg lt0) trodAll_mk0), rfl, hg.frame _, fun h => by cases h⟩
set_option maxRecDepth 100000 in
theorem lifted (os : Os) (started : os.Started) (H : Type) (enc : TypeId × Value → H) :
    ReturnsInHanded {} Tryz.checked os 5 .any (Rows.fnControlMatSpec.pre6 enc Tryz.prog Tryz.f5 Rows.fnControlMatRow.domain false) (Rows.fnControlMatSpec.post enc Tryz.prog Tryz.f5 false true false false) := by
  refine returnsInHanded_of_change (C := Tryz.checked) own started (by kernel_rfl) Tryz.func5
    (ChangeSpec.witness6 (enc := enc) (C := Tryz.checked) false ⟨#[], #[.slice none 0 0], []⟩ 8 (by kernel_rfl) (by kernel_rfl) (by kernel_rfl) (by kernel_rfl)) ?_
  intro W base args ds gs before hval hW _ _
  exact contract H enc W base args ds gs before hval hW
theorem closedFacts : joinedFacts Tryz.pinned.checked.prog 5 Tryz.f5 Rows.fnControlMatSpec Rows.fnControlMatRow = true := by
  unfold joinedFacts
  rw [init_may, init_facts.2.1, init_facts.2.2]
  kernel_rfl
theorem said : Rows.FnControlMatSaid :=
  OpenClaim.holds_of_wide 5 Tryz.f5 rfl rfl rfl rfl rfl rfl rfl ⟨rfl, rfl, rfl, rfl, rfl⟩ rfl rfl rfl rfl rfl (by kernel_rfl) Tryz.func5 closedFacts
    (of_decide_eq_true (by kernel_rfl)) (by unfold Func.isWrapper; first | (rw [if_pos (by decide +kernel)]; kernel_rfl) | (rw [if_neg (by decide +kernel)]; exact ⟨rfl, rfl⟩))
    (fun os started H enc _ => lifted os started H enc)
end Go.Proofs.YtlmiebeffdcfhaaGreat.fnControlMat
