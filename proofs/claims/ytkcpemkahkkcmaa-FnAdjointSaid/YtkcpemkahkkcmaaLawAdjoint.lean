/- The law FnAdjoint: the adjoint is an involution and reverses products, at every code. No condition. -/
import Derived.Test.YtkcpemkahkkcmaaInit
import Derived.Test.YtkcpemkahkkcmaaBaseB23
import Derived.Test.YtkcpemkahkkcmaaBaseB04
import Derived.Test.YtkcpemkahkkcmaaBaseB11
import Derived.Test.YtkcpemkahkkcmaaBaseB15
import Derived.Lib.SmallJoins
import Derived.WalkKit
import Derived.ProofKit
import Derived.OpenShut
import Derived.Deep.DeepHandedRow
import Derived.Lib.LaidTab
import Derived.LaidMore
import Derived.LaidHandle
import Derived.Lay
import Derived.Stop.LaidErr
namespace Go.Proofs.Ytkcpemkahkkcmaa.fnAdjoint
open Go.ChangeShapes Go.WideShapes Go.ChangeAt Go.RowKit Go.Lib
attribute [local irreducible] World.cell?
set_option maxRecDepth 100000 in
set_option maxHeartbeats 6400000 in
theorem core (a0 : Option Addr) (len cap : Nat) (hs : len ≤ 1048576) (_ : len ≤ cap) (w : World) (hcode : CodeAt w w.heap.size a0 len) :
    Calls Try.prog 4 #[.slice a0 len cap] w fun e w' => e = .returned (.bool true) ∧ Below w.heap.size w w' := by
  have Hc := Lib.hid hcode
  clear hcode
  go_enter Try.func4, Try.ntmps4
  go_wp2_with (go_at_call 15; go_in)
  refine (drawMulMt a0 len cap _ Hc.out).mono ?_
  rintro e w1 ⟨⟨u, v, M, N, rfl, hM, hN, hdu, hdv⟩, hb1⟩
  have hnM : M.length ≤ 1048576 := by have := hM.1; omega
  have hnN : N.length ≤ 1048576 := by have := hN.1; omega
  have hmM := hM.amps
  have hmN := hN.amps
  have hEM : EbM M := fun r hr => (hM.2 r hr).1
  have hEN : EbM N := fun r hr => (hN.2 r hr).1
  have hEA := adjM_eb M
  have hEB := adjM_eb N
  have hEP := mulM_eb M N
  obtain ⟨a16, a256⟩ := adjM_amps M
  obtain ⟨b16, b256⟩ := adjM_amps N
  obtain ⟨p16, p256⟩ := mulM_amps M N
  obtain ⟨q16, q256⟩ := mulM_amps (adjM N) (adjM M)
  have r16 := (adjM_amps (mulM M N)).1
  have r256 := (adjM_amps (mulM M N)).2
  have hadj := fun (h : mtB M = true) => adj_adj h
  have hmul := fun (h : mulMB M N = true) (h' : mulMB (adjM N) (adjM M) = true) => adj_mul h h'
  have Hia := Lib.hid (fun P Q v W (h : DSM W P Q v M) => iadj P Q v M W h hEM hnM hmM)
  have Hsa := Lib.hid (fun P Q v W (h : DSM W P Q v M) => sadj P Q v M W h hnM hmM)
  have Hib := Lib.hid (fun P Q v W (h : DSM W P Q v N) => iadj P Q v N W h hEN hnN hmN)
  have Hiaa := Lib.hid (fun P Q v W (h : DSM W P Q v (adjM M)) => iadj P Q v (adjM M) W h hEA (by omega) (by omega))
  have Hip := Lib.hid (fun P Q v W (h : DSM W P Q v (mulM M N)) => iadj P Q v (mulM M N) W h hEP (by omega) (by omega))
  have Heq := Lib.hid (fun P Q R S v u W (h1 : DSM W P Q v (adjM M)) (h2 : DSM W R S u (adjM M)) => sequalMt P Q R S v u (adjM M) (adjM M) W h1 h2 (by omega) (by omega) (by omega) (by omega))
  have Heq2 := Lib.hid (fun P Q R S v u W (h1 : DSM W P Q v M) (h2 : DSM W R S u M) => sequalMt P Q R S v u M M W h1 h2 hnM hnM hmM hmM)
  have Heq3 := Lib.hid (fun P Q R S v u W (h1 : DSM W P Q v (adjM (mulM M N))) (h2 : DSM W R S u (mulM (adjM N) (adjM M))) => sequalMt P Q R S v u (adjM (mulM M N)) (mulM (adjM N) (adjM M)) W h1 h2 (by omega) (by omega) (by omega) (by omega))
  have Hiv := Lib.hid (fun P Q v W (h : DSM W P Q v M) => ivalidMt P Q v M W h hEM hnM hmM)
  have Hsv := Lib.hid (fun P Q v W (h : DSM W P Q v M) => svalidMt P Q v M W h hnM hmM)
  have Hsm := Lib.hid (fun P Q R S v u W (h1 : DSM W P Q v M) (h2 : DSM W R S u N) => smulM P Q R S v u M N W h1 h2 hnM hnN hmM hmN)
  have Him := Lib.hid (fun P Q R S v u W (h1 : DSM W P Q v (adjM N)) (h2 : DSM W R S u (adjM M)) => imulM P Q R S v u (adjM N) (adjM M) W h1 h2 hEB hEA (by omega) (by omega) (by omega) (by omega))
  rw [decide_eq_true (rfl : adjM M = adjM M)] at Heq
  rw [decide_eq_true (rfl : M = M)] at Heq2
  generalize adjM (mulM M N) = R at *
  generalize mulM (adjM N) (adjM M) = Q at *
  generalize mulMB (adjM N) (adjM M) = two at *
  generalize mulM M N = P at *
  generalize mulMB M N = one at *
  generalize adjM (adjM M) = AA at *
  generalize adjM M = A at *
  generalize adjM N = B at *
  generalize mtB M = t at *
  have Hadj := Lib.hid hadj
  have Hmul := Lib.hid hmul
  have Hu := Lib.hid hdu
  have Hv := Lib.hid hdv
  have Hb := Lib.hid hb1
  clear hM hN hdu hdv hb1 hEM hEN hEA hEB hEP hadj hmul
  go_wp2_with fail
  refine (Hia.out _ _ _ _ Hu.out).mono ?_
  rintro e w2 ⟨vx, rfl, hd2, hb2⟩
  have Hx := Lib.hid hd2
  have Hu := Lib.hid (Hu.out.below hb2)
  have Hv := Lib.hid (Hv.out.below hb2)
  have Hb := Lib.hid (below_nx Hb.out hb2)
  clear hb2 hd2
  go_wp2_with fail
  refine (Hsa.out _ _ _ _ Hu.out).mono ?_
  rintro e w3 ⟨vy, rfl, hd3, hb3⟩
  have Hy := Lib.hid hd3
  have Hu := Lib.hid (Hu.out.below hb3)
  have Hv := Lib.hid (Hv.out.below hb3)
  have Hx := Lib.hid (Hx.out.below hb3)
  have Hb := Lib.hid (below_nx Hb.out hb3)
  clear hb3 hd3
  go_wp2_with fail
  refine (Heq.out _ _ _ _ _ _ _ Hx.out Hy.out).mono ?_
  rintro e w4 ⟨rfl, hb4⟩
  have Hu := Lib.hid (Hu.out.below hb4)
  have Hv := Lib.hid (Hv.out.below hb4)
  have Hx := Lib.hid (Hx.out.below hb4)
  have Hy := Lib.hid (Hy.out.below hb4)
  have Hb := Lib.hid (below_nx Hb.out hb4)
  clear hb4
  go_wp2_with fail
  refine (Hiv.out _ _ _ _ Hu.out).mono ?_
  rintro e w5 ⟨rfl, hb5⟩
  have Hu := Lib.hid (Hu.out.below hb5)
  have Hv := Lib.hid (Hv.out.below hb5)
  have Hx := Lib.hid (Hx.out.below hb5)
  have Hb := Lib.hid (below_nx Hb.out hb5)
  clear hb5
  go_wp2_with fail
  refine (Hsv.out _ _ _ _ Hu.out).mono ?_
  rintro e w6 ⟨rfl, hb6⟩
  have Hu := Lib.hid (Hu.out.below hb6)
  have Hv := Lib.hid (Hv.out.below hb6)
  have Hx := Lib.hid (Hx.out.below hb6)
  have Hb := Lib.hid (below_nx Hb.out hb6)
  clear hb6
  go_wp2_with fail
  refine (Hsv.out _ _ _ _ Hu.out).mono ?_
  rintro e w7 ⟨rfl, hb7⟩
  have Hu := Lib.hid (Hu.out.below hb7)
  have Hv := Lib.hid (Hv.out.below hb7)
  have Hx := Lib.hid (Hx.out.below hb7)
  have Hb := Lib.hid (below_nx Hb.out hb7)
  clear hb7
  cases t with
  | false =>
    go_wp2_with fail
    refine (Hsm.out _ _ _ _ _ _ _ Hu.out Hv.out).mono ?_
    rintro e w8 ⟨⟨vp, rfl, hd8⟩, hb8⟩
    have Hp := Lib.hid hd8
    have Hu := Lib.hid (Hu.out.below hb8)
    have Hv := Lib.hid (Hv.out.below hb8)
    have Hx := Lib.hid (Hx.out.below hb8)
    have Hb := Lib.hid (below_nx Hb.out hb8)
    clear hb8 hd8
    go_wp2_with fail
    refine (Hib.out _ _ _ _ Hv.out).mono ?_
    rintro e w9 ⟨vb, rfl, hd9, hb9⟩
    have Hk := Lib.hid hd9
    have Hu := Lib.hid (Hu.out.below hb9)
    have Hv := Lib.hid (Hv.out.below hb9)
    have Hx := Lib.hid (Hx.out.below hb9)
    have Hp := Lib.hid (Hp.out.below hb9)
    have Hb := Lib.hid (below_nx Hb.out hb9)
    clear hb9 hd9
    go_wp2_with fail
    refine (Him.out _ _ _ _ _ _ _ Hk.out Hx.out).mono ?_
    rintro e w10 ⟨⟨vq, rfl, hd10⟩, hb10⟩
    have Hq := Lib.hid hd10
    have Hu := Lib.hid (Hu.out.below hb10)
    have Hv := Lib.hid (Hv.out.below hb10)
    have Hx := Lib.hid (Hx.out.below hb10)
    have Hp := Lib.hid (Hp.out.below hb10)
    have Hk := Lib.hid (Hk.out.below hb10)
    have Hb := Lib.hid (below_nx Hb.out hb10)
    clear hb10 hd10
    have HbF := Hb
    cases one with
    | false =>
      cases two with
      | false =>
        go_wp2_with fail
        go_ret
        exact ⟨rfl, HbF.out⟩
      | true =>
        go_wp2_with fail
        go_ret
        exact ⟨rfl, HbF.out⟩
    | true =>
      cases two with
      | false =>
        go_wp2_with fail
        go_ret
        exact ⟨rfl, HbF.out⟩
      | true =>
        obtain rfl : R = Q := Hmul.out rfl rfl
        rw [decide_eq_true (rfl : R = R)] at Heq3
        go_wp2_with fail
        refine (Hip.out _ _ _ _ Hp.out).mono ?_
        rintro e w11 ⟨vz, rfl, hd11, hb11⟩
        have Hz := Lib.hid hd11
        have Hu := Lib.hid (Hu.out.below hb11)
        have Hv := Lib.hid (Hv.out.below hb11)
        have Hx := Lib.hid (Hx.out.below hb11)
        have Hp := Lib.hid (Hp.out.below hb11)
        have Hk := Lib.hid (Hk.out.below hb11)
        have Hq := Lib.hid (Hq.out.below hb11)
        have Hb := Lib.hid (below_nx Hb.out hb11)
        clear hb11 hd11
        go_wp2_with fail
        refine (Heq3.out _ _ _ _ _ _ _ Hz.out Hq.out).mono ?_
        rintro e w12 ⟨rfl, hb12⟩
        have Hu := Lib.hid (Hu.out.below hb12)
        have Hv := Lib.hid (Hv.out.below hb12)
        have Hx := Lib.hid (Hx.out.below hb12)
        have Hp := Lib.hid (Hp.out.below hb12)
        have Hk := Lib.hid (Hk.out.below hb12)
        have Hq := Lib.hid (Hq.out.below hb12)
        have Hz := Lib.hid (Hz.out.below hb12)
        have Hb := Lib.hid (below_nx Hb.out hb12)
        clear hb12
        have HbG := Hb
        go_wp2_with fail
        go_ret
        exact ⟨rfl, HbG.out⟩
  | true =>
    obtain rfl : AA = M := Hadj.out rfl
    go_wp2_with fail
    refine (Hiaa.out _ _ _ _ Hx.out).mono ?_
    rintro e w13 ⟨vaa, rfl, hd13, hb13⟩
    have Haa := Lib.hid hd13
    have Hu := Lib.hid (Hu.out.below hb13)
    have Hv := Lib.hid (Hv.out.below hb13)
    have Hx := Lib.hid (Hx.out.below hb13)
    have Hb := Lib.hid (below_nx Hb.out hb13)
    clear hb13 hd13
    go_wp2_with fail
    refine (Heq2.out _ _ _ _ _ _ _ Haa.out Hu.out).mono ?_
    rintro e w14 ⟨rfl, hb14⟩
    have Hu := Lib.hid (Hu.out.below hb14)
    have Hv := Lib.hid (Hv.out.below hb14)
    have Hx := Lib.hid (Hx.out.below hb14)
    have Haa := Lib.hid (Haa.out.below hb14)
    have Hb := Lib.hid (below_nx Hb.out hb14)
    clear hb14
    go_wp2_with fail
    refine (Hsm.out _ _ _ _ _ _ _ Hu.out Hv.out).mono ?_
    rintro e w15 ⟨⟨vp, rfl, hd15⟩, hb15⟩
    have Hp := Lib.hid hd15
    have Hu := Lib.hid (Hu.out.below hb15)
    have Hv := Lib.hid (Hv.out.below hb15)
    have Hx := Lib.hid (Hx.out.below hb15)
    have Hb := Lib.hid (below_nx Hb.out hb15)
    clear hb15 hd15
    go_wp2_with fail
    refine (Hib.out _ _ _ _ Hv.out).mono ?_
    rintro e w16 ⟨vb, rfl, hd16, hb16⟩
    have Hk := Lib.hid hd16
    have Hu := Lib.hid (Hu.out.below hb16)
    have Hv := Lib.hid (Hv.out.below hb16)
    have Hx := Lib.hid (Hx.out.below hb16)
    have Hp := Lib.hid (Hp.out.below hb16)
    have Hb := Lib.hid (below_nx Hb.out hb16)
    clear hb16 hd16
    go_wp2_with fail
    refine (Him.out _ _ _ _ _ _ _ Hk.out Hx.out).mono ?_
    rintro e w17 ⟨⟨vq, rfl, hd17⟩, hb17⟩
    have Hq := Lib.hid hd17
    have Hu := Lib.hid (Hu.out.below hb17)
    have Hv := Lib.hid (Hv.out.below hb17)
    have Hx := Lib.hid (Hx.out.below hb17)
    have Hp := Lib.hid (Hp.out.below hb17)
    have Hk := Lib.hid (Hk.out.below hb17)
    have Hb := Lib.hid (below_nx Hb.out hb17)
    clear hb17 hd17
    have HbF := Hb
    cases one with
    | false =>
      cases two with
      | false =>
        go_wp2_with fail
        go_ret
        exact ⟨rfl, HbF.out⟩
      | true =>
        go_wp2_with fail
        go_ret
        exact ⟨rfl, HbF.out⟩
    | true =>
      cases two with
      | false =>
        go_wp2_with fail
        go_ret
        exact ⟨rfl, HbF.out⟩
      | true =>
        obtain rfl : R = Q := Hmul.out rfl rfl
        rw [decide_eq_true (rfl : R = R)] at Heq3
        go_wp2_with fail
        refine (Hip.out _ _ _ _ Hp.out).mono ?_
        rintro e w18 ⟨vz, rfl, hd18, hb18⟩
        have Hz := Lib.hid hd18
        have Hu := Lib.hid (Hu.out.below hb18)
        have Hv := Lib.hid (Hv.out.below hb18)
        have Hx := Lib.hid (Hx.out.below hb18)
        have Hp := Lib.hid (Hp.out.below hb18)
        have Hk := Lib.hid (Hk.out.below hb18)
        have Hq := Lib.hid (Hq.out.below hb18)
        have Hb := Lib.hid (below_nx Hb.out hb18)
        clear hb18 hd18
        go_wp2_with fail
        refine (Heq3.out _ _ _ _ _ _ _ Hz.out Hq.out).mono ?_
        rintro e w19 ⟨rfl, hb19⟩
        have Hu := Lib.hid (Hu.out.below hb19)
        have Hv := Lib.hid (Hv.out.below hb19)
        have Hx := Lib.hid (Hx.out.below hb19)
        have Hp := Lib.hid (Hp.out.below hb19)
        have Hk := Lib.hid (Hk.out.below hb19)
        have Hq := Lib.hid (Hq.out.below hb19)
        have Hz := Lib.hid (Hz.out.below hb19)
        have Hb := Lib.hid (below_nx Hb.out hb19)
        clear hb19
        have HbG := Hb
        go_wp2_with fail
        go_ret
        exact ⟨rfl, HbG.out⟩
set_option maxRecDepth 100000 in
set_option maxHeartbeats 400000 in
theorem walk (a0 : Option Addr) (len cap : Nat) (w : World) (hm : len ≤ maxLen) (hlc : len ≤ cap) (hc : len ≤ 1048576 → CodeAt w w.heap.size a0 len) :
    Calls Try.prog 4 #[.slice a0 len cap] w fun e w' => e = .returned (.bool true) ∧ Below w.heap.size w w' := by
  by_cases hs : len ≤ 1048576
  · exact core a0 len cap hs hlc w (hc hs)
  · unfold maxLen at hm
    clear hc
    go_enter Try.func4, Try.ntmps4
    go_wp2_with (go_at_call 15; go_in)
    go_ret
    exact ⟨rfl, Below.refl _ _⟩
open Go.ChangeMaps (open_string shut_string)
theorem laidOut : laidOutB Try.prog = true := by kernel_rfl
theorem own : ownKnob Try.prog.godebug = none := by kernel_rfl
set_option maxRecDepth 100000 in
/-- What the walk gives, for every argument. -/
theorem contract (H : Type) (enc : TypeId × Value → H) (W : World) (base : Nat) (args : Array Value) (ds gs : List (DataW H)) (before : List MemPlace)
    (hval : ∀ (j : Nat) t v, Try.f4.params[j]? = some t → args[j]? = some v → Value.okWide Try.prog W .any base t v)
    (hW : DataW.Whole enc Try.prog Try.f4.params.toList Rows.fnAdjointSpec.vars false W args.toList ds gs before) :
    Calls Try.prog 4 args W fun e W' => ∃ v, e = .returned v ∧ Rows.fnAdjointSpec.post enc Try.prog Try.f4 false true false false W args v W' := by
  have hW' := hW
  obtain ⟨p, q, hA0, hV, rfl, hfz, hnd⟩ := hW
  have hA : DataW.TrodAll enc Try.prog W 0 (fun _ => true) true Try.f4.params.toList args.toList ds p := hA0
  rw [Try.params4] at hA hval
  obtain ⟨v0, vs0, d0, ds0, p0, q0, hargs, rfl, rfl, h0, r0⟩ := trodAll_cons hA
  obtain ⟨rfl, rfl, rfl⟩ := trodAll_nil r0
  obtain rfl : args = #[v0] := by cases args; simp_all
  obtain ⟨rfl, rfl⟩ := trodVars_none hV
  obtain ⟨ca, cl, cc, rfl⟩ := okWide_slice Try.underlying22 (hval 0 22 v0 rfl rfl)
  have k0 := h0
  have lt0 : ∀ x ∈ p0, x.block < W.heap.size := by obtain ⟨m, hm⟩ := k0; exact DataW.trod_lt m _ _ _ hm
  have ch : (cl ≤ 1048576 → CodeAt W W.heap.size ca cl) ∧ cl ≤ maxLen ∧ cl ≤ cc := by
    obtain ⟨fuel, hf⟩ := h0
    rcases open_ints Try.underlying22 Try.underlying5 (by kernel_rfl) hf with ⟨hcs, _⟩ | ⟨x, l, c, zs, hcs, _, hl, hm, hz, _, hcell, hwz⟩
    · simp [Value.cells] at hcs
      obtain ⟨rfl, rfl, rfl⟩ := hcs
      exact ⟨fun _ => ⟨by omega, fun h => absurd h (by omega)⟩, Nat.zero_le _, Nat.le_refl _⟩
    · simp [Value.cells] at hcs
      obtain ⟨rfl, rfl, rfl⟩ := hcs
      have hz2 : zs.length = cc := by simpa using hz
      exact ⟨fun hs => code_of hs (by omega) hcell hwz, by omega, hl⟩
  clear hA0
  simp only [List.append_nil] at hW'
  refine (walk ca cl cc W ch.2.1 ch.2.2 ch.1).mono fun e W' ⟨he, hg⟩ => ?_
  subst he
  exact ⟨_, rfl, _, _, _, [], _, [], hW', trodAll_mk1 (shut_bool Try.underlying4 _), (trodAll_cons_mk (Below.trod laidOut (by kernel_rfl) (of_decide_eq_true (by kernel_rfl)) k0 hg lt0) trodAll_mk0), rfl, hg.frame _, fun h => by cases h⟩
set_option maxRecDepth 100000 in
theorem lifted (os : Os) (started : os.Started) (H : Type) (enc : TypeId × Value → H) :
    ReturnsInHanded {} Try.checked os 4 .any (Rows.fnAdjointSpec.pre6 enc Try.prog Try.f4 Rows.fnAdjointRow.domain false) (Rows.fnAdjointSpec.post enc Try.prog Try.f4 false true false false) := by
  refine returnsInHanded_of_change (C := Try.checked) own started (by kernel_rfl) Try.func4
    (ChangeSpec.witness6 (enc := enc) (C := Try.checked) false ⟨#[], #[.slice none 0 0], []⟩ 8 (by kernel_rfl) (by kernel_rfl) (by kernel_rfl) (by kernel_rfl)) ?_
  intro W base args ds gs before hval hW _ _
  exact contract H enc W base args ds gs before hval hW
theorem closedFacts : joinedFacts Try.pinned.checked.prog 4 Try.f4 Rows.fnAdjointSpec Rows.fnAdjointRow = true := by
  unfold joinedFacts
  rw [init_may, init_facts.2.1, init_facts.2.2]
  kernel_rfl
theorem said : Rows.FnAdjointSaid :=
  OpenClaim.holds_of_wide 4 Try.f4 rfl rfl rfl rfl rfl rfl rfl ⟨rfl, rfl, rfl, rfl, rfl⟩ rfl rfl rfl rfl rfl (by kernel_rfl) Try.func4 closedFacts
    (of_decide_eq_true (by kernel_rfl)) (by unfold Func.isWrapper; first | (rw [if_pos (by decide +kernel)]; kernel_rfl) | (rw [if_neg (by decide +kernel)]; exact ⟨rfl, rfl⟩))
    (fun os started H enc _ => lifted os started H enc)
end Go.Proofs.Ytkcpemkahkkcmaa.fnAdjoint
