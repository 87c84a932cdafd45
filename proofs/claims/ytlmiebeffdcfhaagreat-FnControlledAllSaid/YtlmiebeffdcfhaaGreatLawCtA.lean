/- The law FnControlledAll: a controlled sequence performs the controlled matrix, at every code. No condition. -/
import Derived.Test.YtlmiebeffdcfhaaGreatBaseC01
import Derived.Test.YtlmiebeffdcfhaaGreatBaseC08
import Derived.Test.YtlmiebeffdcfhaaGreatCtKm
import Derived.Test.YtlmiebeffdcfhaaGreatCtM
import Derived.Test.YtlmiebeffdcfhaaGreatBaseC07
import Derived.Test.YtlmiebeffdcfhaaGreatBaseB15
import Derived.Lib.SmallJoins
import Derived.WalkKit
import Derived.ProofKit
import Derived.OpenShut
import Derived.Deep.DeepHandedRow
import Derived.Lib.LaidTab
import Derived.LaidMore
import Derived.LaidHandle
import Derived.Lay
import Derived.Stop.LaidErr
namespace Go.Proofs.YtlmiebeffdcfhaaGreat.fnControlledAll
open Go.ChangeShapes Go.WideShapes Go.ChangeAt Go.RowKit Go.Lib
attribute [local irreducible] World.cell?
set_option maxRecDepth 100000 in
set_option maxHeartbeats 12800000 in
theorem core (a0 : Option Addr) (len cap : Nat) (hs : len ≤ 1048576) (_ : len ≤ cap) (w : World) (hcode : CodeAt w w.heap.size a0 len) :
    Calls Tryz.prog 4 #[.slice a0 len cap] w fun e w' => e = .returned (.bool true) ∧ Below w.heap.size w w' := by
  have Hc := Lib.hid hcode
  have Hb := Lib.hid (Below.refl w.heap.size w)
  clear hcode
  go_enter Tryz.func4, Tryz.ntmps4
  go_wp2_with (go_at_call 6; go_in)
  refine (drawCtGs a0 len cap _ Hc.out).mono ?_
  rintro e w1 ⟨⟨q, vl, L, rfl, q0, q1, hln, hd1⟩, hb1⟩
  have HL := Lib.hid hd1
  obtain ⟨pL, qL, rfl, -, -⟩ := id hd1
  have Hb := Lib.hid (below_nx Hb.out hb1)
  have Hi := Lib.hid (fun W B v (h : gtE.Sl W B v L) => ictGs B q v L W h (by omega))
  have Hs := Lib.hid (fun W B v (h : gtE.Sl W B v L) => sctGs B q v L W h (by omega))
  have hrl := ctRs_len q L
  have Hsm := Lib.hid (fun W B C v u (h1 : gtE.Sl W B v (ctRs q L)) (h2 : gtE.Sl W C u (ctRs q L)) => lsame B C v u (ctRs q L) W h1 h2 (by omega))
  clear hb1 hd1
  by_cases hgo : ctBs q L = true ∧ 0 ≤ q ∧ q < 4
  · obtain ⟨hB, hq0, hq4⟩ := hgo
    obtain ⟨hc1, hc2, hM, hE⟩ := law_ctA hB ⟨hq0, hq4⟩ hln
    have eR : ctRs q L = ctLL q L := by unfold ctRs; rw [hB]; rfl
    rw [hB] at Hi Hs
    rw [eR] at Hi Hs Hsm hrl
    have hx0 := ccM_bp 4 L
    obtain ⟨hx1, hx2, -⟩ := ctM_amps q (ccM 4 L)
    have hm1 := hx0.bd.amps
    have Hsc := Lib.hid (fun W B v (h : gtE.Sl W B v L) => scirc B 4 v L W h (by omega))
    rw [hc1] at Hsc
    have Hcm := Lib.hid (fun P Q v W (h : DSM W P Q v (ccM 4 L)) => ictM P Q q v (ccM 4 L) W h (fun r hr => (hx0.2 r hr).1) (by have := hx0.1; omega) hm1)
    rw [hM] at Hcm
    have Hci := Lib.hid (fun W B v (h : gtE.Sl W B v (ctLL q L)) => icirc B 4 v (ctLL q L) W h (by omega) (by omega) (by omega))
    rw [hc2, hE] at Hci
    have Heq := Lib.hid (fun P Q R S v u W (h1 : DSM W P Q v (ctM q (ccM 4 L))) (h2 : DSM W R S u (ctM q (ccM 4 L))) => sequalMt P Q R S v u _ _ W h1 h2 (by omega) (by omega) (by omega) (by omega))
    simp only [decide_true] at Heq
    generalize ctM q (ccM 4 L) = X at *
    generalize ccM 4 L = M at *
    generalize ctLL q L = R at *
    have h0' : ¬ q < 0 := by omega
    have h3' : ¬ 3 < q := by omega
    clear hB hc1 hc2 hM hE eR hx0 hx1 hx2 hm1
    go_wp2_with fail
    refine (Hi.out _ _ _ HL.out).mono ?_
    rintro e w2 ⟨v, rfl, hd2, hb2⟩
    have HL := Lib.hid (HL.out.below hb2)
    have HR := Lib.hid hd2
    obtain ⟨p2, c2', rfl, -, -⟩ := id hd2
    have Hb := Lib.hid (below_nx Hb.out hb2)
    clear hb2 hd2
    go_wp2_with fail
    refine (Hs.out _ _ _ HL.out).mono ?_
    rintro e w3 ⟨u, rfl, hd3, hb3⟩
    have HL := Lib.hid (HL.out.below hb3)
    have HR := Lib.hid (HR.out.below hb3)
    have HU := Lib.hid hd3
    obtain ⟨p3, c3', rfl, -, -⟩ := id hd3
    have Hb := Lib.hid (below_nx Hb.out hb3)
    clear hb3 hd3
    go_wp2_with fail
    refine (Hsm.out _ _ _ _ _ HR.out HU.out).mono ?_
    rintro e w4 ⟨rfl, hb4⟩
    have HL := Lib.hid (HL.out.below hb4)
    have HR := Lib.hid (HR.out.below hb4)
    have HU := Lib.hid (HU.out.below hb4)
    have Hb := Lib.hid (below_nx Hb.out hb4)
    clear hb4
    go_wp2_with fail
    refine (Hsc.out _ _ _ HL.out).mono ?_
    rintro e w5 ⟨⟨m, rfl, hd5⟩, hb5⟩
    have HL := Lib.hid (HL.out.below hb5)
    have HR := Lib.hid (HR.out.below hb5)
    have HU := Lib.hid (HU.out.below hb5)
    have HM := Lib.hid hd5
    have Hb := Lib.hid (below_nx Hb.out hb5)
    clear hb5 hd5
    go_wp2_with fail
    refine (Hcm.out _ _ _ _ HM.out).mono ?_
    rintro e w6 ⟨c, rfl, hd6, hb6⟩
    have HL := Lib.hid (HL.out.below hb6)
    have HR := Lib.hid (HR.out.below hb6)
    have HU := Lib.hid (HU.out.below hb6)
    have HM := Lib.hid (HM.out.below hb6)
    have HC := Lib.hid hd6
    have Hb := Lib.hid (below_nx Hb.out hb6)
    clear hb6 hd6
    go_wp2_with fail
    refine (Hci.out _ _ _ HR.out).mono ?_
    rintro e w7 ⟨⟨x, rfl, hd7⟩, hb7⟩
    have HL := Lib.hid (HL.out.below hb7)
    have HR := Lib.hid (HR.out.below hb7)
    have HU := Lib.hid (HU.out.below hb7)
    have HM := Lib.hid (HM.out.below hb7)
    have HC := Lib.hid (HC.out.below hb7)
    have HX := Lib.hid hd7
    have Hb := Lib.hid (below_nx Hb.out hb7)
    clear hb7 hd7
    go_wp2_with fail
    refine (Heq.out _ _ _ _ _ _ _ HX.out HC.out).mono ?_
    rintro e w8 ⟨rfl, hb8⟩
    have HL := Lib.hid (HL.out.below hb8)
    have HR := Lib.hid (HR.out.below hb8)
    have HU := Lib.hid (HU.out.below hb8)
    have HM := Lib.hid (HM.out.below hb8)
    have HC := Lib.hid (HC.out.below hb8)
    have HX := Lib.hid (HX.out.below hb8)
    have Hb := Lib.hid (below_nx Hb.out hb8)
    clear hb8
    go_wp2_with fail
    first | go_ret | go_returns
    exact ⟨rfl, Hb.out⟩
  · have hor : ctBs q L = false ∨ (ctBs q L = true ∧ (q < 0 ∨ 3 < q)) := by
      cases hB : ctBs q L with
      | false => exact .inl rfl
      | true => exact .inr ⟨rfl, by have : ¬ (0 ≤ q ∧ q < 4) := fun h => hgo ⟨hB, h⟩; omega⟩
    generalize ctRs q L = R at *
    generalize ctBs q L = t at *
    clear hgo
    rcases hor with rfl | ⟨rfl, hq⟩
    · go_wp2_with fail
      refine (Hi.out _ _ _ HL.out).mono ?_
      rintro e w2 ⟨v, rfl, hd2, hb2⟩
      have HL := Lib.hid (HL.out.below hb2)
      have HR := Lib.hid hd2
      obtain ⟨p2, c2', rfl, -, -⟩ := id hd2
      have Hb := Lib.hid (below_nx Hb.out hb2)
      clear hb2 hd2
      go_wp2_with fail
      refine (Hs.out _ _ _ HL.out).mono ?_
      rintro e w3 ⟨u, rfl, hd3, hb3⟩
      have HL := Lib.hid (HL.out.below hb3)
      have HR := Lib.hid (HR.out.below hb3)
      have HU := Lib.hid hd3
      obtain ⟨p3, c3', rfl, -, -⟩ := id hd3
      have Hb := Lib.hid (below_nx Hb.out hb3)
      clear hb3 hd3
      go_wp2_with fail
      refine (Hsm.out _ _ _ _ _ HR.out HU.out).mono ?_
      rintro e w4 ⟨rfl, hb4⟩
      have HL := Lib.hid (HL.out.below hb4)
      have HR := Lib.hid (HR.out.below hb4)
      have HU := Lib.hid (HU.out.below hb4)
      have Hb := Lib.hid (below_nx Hb.out hb4)
      clear hb4
      go_wp2_with fail
      refine (Hsm.out _ _ _ _ _ HR.out HU.out).mono ?_
      rintro e w5 ⟨rfl, hb5⟩
      have HL := Lib.hid (HL.out.below hb5)
      have HR := Lib.hid (HR.out.below hb5)
      have HU := Lib.hid (HU.out.below hb5)
      have Hb := Lib.hid (below_nx Hb.out hb5)
      clear hb5
      go_wp2_with fail
      first | go_ret | go_returns
      exact ⟨rfl, Hb.out⟩
    · rcases hq with hq | hq
      · go_wp2_with fail
        refine (Hi.out _ _ _ HL.out).mono ?_
        rintro e w2 ⟨v, rfl, hd2, hb2⟩
        have HL := Lib.hid (HL.out.below hb2)
        have HR := Lib.hid hd2
        obtain ⟨p2, c2', rfl, -, -⟩ := id hd2
        have Hb := Lib.hid (below_nx Hb.out hb2)
        clear hb2 hd2
        go_wp2_with fail
        refine (Hs.out _ _ _ HL.out).mono ?_
        rintro e w3 ⟨u, rfl, hd3, hb3⟩
        have HL := Lib.hid (HL.out.below hb3)
        have HR := Lib.hid (HR.out.below hb3)
        have HU := Lib.hid hd3
        obtain ⟨p3, c3', rfl, -, -⟩ := id hd3
        have Hb := Lib.hid (below_nx Hb.out hb3)
        clear hb3 hd3
        go_wp2_with fail
        refine (Hsm.out _ _ _ _ _ HR.out HU.out).mono ?_
        rintro e w4 ⟨rfl, hb4⟩
        have HL := Lib.hid (HL.out.below hb4)
        have HR := Lib.hid (HR.out.below hb4)
        have HU := Lib.hid (HU.out.below hb4)
        have Hb := Lib.hid (below_nx Hb.out hb4)
        clear hb4
        go_wp2_with fail
        refine (Hsm.out _ _ _ _ _ HR.out HU.out).mono ?_
        rintro e w5 ⟨rfl, hb5⟩
        have HL := Lib.hid (HL.out.below hb5)
        have HR := Lib.hid (HR.out.below hb5)
        have HU := Lib.hid (HU.out.below hb5)
        have Hb := Lib.hid (below_nx Hb.out hb5)
        clear hb5
        go_wp2_with fail
        first | go_ret | go_returns
        exact ⟨rfl, Hb.out⟩
      · have hq' : ¬ q < 0 := by omega
        go_wp2_with fail
        refine (Hi.out _ _ _ HL.out).mono ?_
        rintro e w2 ⟨v, rfl, hd2, hb2⟩
        have HL := Lib.hid (HL.out.below hb2)
        have HR := Lib.hid hd2
        obtain ⟨p2, c2', rfl, -, -⟩ := id hd2
        have Hb := Lib.hid (below_nx Hb.out hb2)
        clear hb2 hd2
        go_wp2_with fail
        refine (Hs.out _ _ _ HL.out).mono ?_
        rintro e w3 ⟨u, rfl, hd3, hb3⟩
        have HL := Lib.hid (HL.out.below hb3)
        have HR := Lib.hid (HR.out.below hb3)
        have HU := Lib.hid hd3
        obtain ⟨p3, c3', rfl, -, -⟩ := id hd3
        have Hb := Lib.hid (below_nx Hb.out hb3)
        clear hb3 hd3
        go_wp2_with fail
        refine (Hsm.out _ _ _ _ _ HR.out HU.out).mono ?_
        rintro e w4 ⟨rfl, hb4⟩
        have HL := Lib.hid (HL.out.below hb4)
        have HR := Lib.hid (HR.out.below hb4)
        have HU := Lib.hid (HU.out.below hb4)
        have Hb := Lib.hid (below_nx Hb.out hb4)
        clear hb4
        go_wp2_with fail
        refine (Hsm.out _ _ _ _ _ HR.out HU.out).mono ?_
        rintro e w5 ⟨rfl, hb5⟩
        have HL := Lib.hid (HL.out.below hb5)
        have HR := Lib.hid (HR.out.below hb5)
        have HU := Lib.hid (HU.out.below hb5)
        have Hb := Lib.hid (below_nx Hb.out hb5)
        clear hb5
        go_wp2_with fail
        first | go_ret | go_returns
        exact ⟨rfl, Hb.out⟩
set_option maxRecDepth 100000 in
set_option maxHeartbeats 400000 in
theorem walk (a0 : Option Addr) (len cap : Nat) (w : World) (hm : len ≤ maxLen) (hlc : len ≤ cap) (hc : len ≤ 1048576 → CodeAt w w.heap.size a0 len) :
    Calls Tryz.prog 4 #[.slice a0 len cap] w fun e w' => e = .returned (.bool true) ∧ Below w.heap.size w w' := by
  by_cases hs : len ≤ 1048576
  · exact core a0 len cap hs hlc w (hc hs)
  · unfold maxLen at hm
    clear hc
    go_enter Tryz.func4, Tryz.ntmps4
    go_wp2_with (go_at_call 6; go_in)
    go_ret
    exact ⟨rfl, Below.refl _ _⟩
open Go.ChangeMaps (open_string shut_string)
theorem laidOut : laidOutB Tryz.prog = true := by kernel_rfl
theorem own : ownKnob Tryz.prog.godebug = none := by kernel_rfl
set_option maxRecDepth 100000 in
/-- What the walk gives, for every argument. -/
theorem contract (H : Type) (enc : TypeId × Value → H) (W : World) (base : Nat) (args : Array Value) (ds gs : List (DataW H)) (before : List MemPlace)
    (hval : ∀ (j : Nat) t v, Tryz.f4.params[j]? = some t → args[j]? = some v → Value.okWide Tryz.prog W .any base t v)
    (hW : DataW.Whole enc Tryz.prog Tryz.f4.params.toList Rows.fnControlledAllSpec.vars false W args.toList ds gs before) :
    Calls Tryz.prog 4 args W fun e W' => ∃ v, e = .returned v ∧ Rows.fnControlledAllSpec.post enc Tryz.prog Tryz.f4 false true false false W args v W' := by
  have hW' := hW
  obtain ⟨p, q, hA0, hV, rfl, hfz, hnd⟩ := hW
  have hA : DataW.TrodAll enc Tryz.prog W 0 (fun _ => true) true Tryz.f4.params.toList args.toList ds p := hA0
  rw [Tryz.params4] at hA hval
  obtain ⟨v0, vs0, d0, ds0, p0, q0, hargs, rfl, rfl, h0, r0⟩ := trodAll_cons hA
  obtain ⟨rfl, rfl, rfl⟩ := trodAll_nil r0
  obtain rfl : args = #[v0] := by cases args; simp_all
  obtain ⟨rfl, rfl⟩ := trodVars_none hV
  obtain ⟨ca, cl, cc, rfl⟩ := okWide_slice Tryz.underlying22 (hval 0 22 v0 rfl rfl)
  have k0 := h0
  have lt0 : ∀ x ∈ p0, x.block < W.heap.size := by obtain ⟨m, hm⟩ := k0; exact DataW.trod_lt m _ _ _ hm
  have ch : (cl ≤ 1048576 → CodeAt W W.heap.size ca cl) ∧ cl ≤ maxLen ∧ cl ≤ cc := by
    obtain ⟨fuel, hf⟩ := h0
    rcases open_ints Tryz.underlying22 Tryz.underlying5 (by kernel_rfl) hf with ⟨hcs, _⟩ | ⟨x, l, c, zs, hcs, _, hl, hm, hz, _, hcell, hwz⟩
    · simp [Value.cells] at hcs
      obtain ⟨rfl, rfl, rfl⟩ := hcs
      exact ⟨fun _ => ⟨by omega, fun h => absurd h (by omega)⟩, Nat.zero_le _, Nat.le_refl _⟩
    · simp [Value.cells] at hcs
      obtain ⟨rfl, rfl, rfl⟩ := hcs
      have hz2 : zs.length = cc := by simpa using hz
      exact ⟨fun hs => code_of hs (by omega) hcell hwz, by omega, hl⟩
  clear hA0
  simp only [List.append_nil] at hW'
  refine (walk ca cl cc W ch.2.1 ch.2.2 ch.1).mono fun e W' ⟨he, hg⟩ => ?_
  subst he
  exact ⟨_, rfl, _, _, _, [], _, [], hW', trodAll_mk1 (shut_bool Tryz.underlying4 _), (trodAll_cons_mk (Below.trod laidOut (by kernel_rfl) (of_decide_eq_true (by kernel_rfl)) k0 hg lt0) trodAll_mk0), rfl, hg.frame _, fun h => by cases h⟩
set_option maxRecDepth 100000 in
theorem lifted (os : Os) (started : os.Started) (H : Type) (enc : TypeId × Value → H) :
    ReturnsInHanded {} Tryz.checked os 4 .any (Rows.fnControlledAllSpec.pre6 enc Tryz.prog Tryz.f4 Rows.fnControlledAllRow.domain false) (Rows.fnControlledAllSpec.post enc Tryz.prog Tryz.f4 false true false false) := by
  refine returnsInHanded_of_change (C := Tryz.checked) own started (by kernel_rfl) Tryz.func4
    (ChangeSpec.witness6 (enc := enc) (C := Tryz.checked) false ⟨#[], #[.slice none 0 0], []⟩ 8 (by kernel_rfl) (by kernel_rfl) (by kernel_rfl) (by kernel_rfl)) ?_
  intro W base args ds gs before hval hW _ _
  exact contract H enc W base args ds gs before hval hW
theorem closedFacts : joinedFacts Tryz.pinned.checked.prog 4 Tryz.f4 Rows.fnControlledAllSpec Rows.fnControlledAllRow = true := by
  unfold joinedFacts
  rw [init_may, init_facts.2.1, init_facts.2.2]
  kernel_rfl
theorem said : Rows.FnControlledAllSaid :=
  OpenClaim.holds_of_wide 4 Tryz.f4 rfl rfl rfl rfl rfl rfl rfl ⟨rfl, rfl, rfl, rfl, rfl⟩ rfl rfl rfl rfl rfl (by kernel_rfl) Tryz.func4 closedFacts
    (of_decide_eq_true (by kernel_rfl)) (by unfold Func.isWrapper; first | (rw [if_pos (by decide +kernel)]; kernel_rfl) | (rw [if_neg (by decide +kernel)]; exact ⟨rfl, rfl⟩))
    (fun os started H enc _ => lifted os started H enc)
end Go.Proofs.YtlmiebeffdcfhaaGreat.fnControlledAll
