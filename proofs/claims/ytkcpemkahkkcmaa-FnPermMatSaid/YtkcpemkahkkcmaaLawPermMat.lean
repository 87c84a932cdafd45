/- The law FnPermMat: permutation matrices are unitary, and the inverse permutation gives the adjoint, at every code. No condition. -/
import Derived.Test.YtkcpemkahkkcmaaInit
import Derived.Test.YtkcpemkahkkcmaaBaseB24
import Derived.Test.YtkcpemkahkkcmaaPmU
import Derived.Test.YtkcpemkahkkcmaaBaseB27
import Derived.Test.YtkcpemkahkkcmaaBaseB04
import Derived.Test.YtkcpemkahkkcmaaBaseB11
import Derived.Test.YtkcpemkahkkcmaaBaseB23
import Derived.Test.YtkcpemkahkkcmaaBaseB10
import Derived.Lib.SmallJoins
import Derived.WalkKit
import Derived.ProofKit
import Derived.OpenShut
import Derived.Deep.DeepHandedRow
import Derived.Lib.LaidTab
import Derived.LaidMore
import Derived.LaidHandle
import Derived.Lay
import Derived.Stop.LaidErr
namespace Go.Proofs.Ytkcpemkahkkcmaa.fnPermMat
open Go.ChangeShapes Go.WideShapes Go.ChangeAt Go.RowKit Go.Lib
attribute [local irreducible] World.cell?
set_option maxRecDepth 100000 in
set_option maxHeartbeats 6400000 in
theorem core (a0 : Option Addr) (len cap : Nat) (hs : len ≤ 1048576) (_ : len ≤ cap) (w : World) (hcode : CodeAt w w.heap.size a0 len) :
    Calls Try.prog 6 #[.slice a0 len cap] w fun e w' => e = .returned (.bool true) ∧ Below w.heap.size w w' := by
  have Hc := Lib.hid hcode
  have Hb := Lib.hid (Below.refl w.heap.size w)
  clear hcode
  go_enter Try.func6, Try.ntmps6
  go_wp2_with (go_at_call 15; go_in)
  refine (drawPm a0 len cap _ Hc.out).mono ?_
  rintro e w1 ⟨⟨vp, p, rfl, hlp, hEp, hdu⟩, hb1⟩
  have hnp : p.length ≤ 1048576 := by omega
  have Hp := Lib.hid hdu.upto
  have Hb := Lib.hid (below_nx Hb.out hb1)
  have hz1 := hb1.size
  clear hdu hb1
  have hr := pmM_amps p
  have hnR : (pmM p).length ≤ 1048576 := by omega
  have hmR : amps (pmM p) ≤ 1048576 := by omega
  have Him := Lib.hid (fun W P a (h : intE.Sl W P a p) => ipmM P a p W h hEp hnp)
  have Hsm := Lib.hid (fun W P a (h : intE.Sl W P a p) => spmM P a p W h hEp hnp)
  have Hse := Lib.hid (fun W P Q R S a b (h : DSM W P Q a (pmM p)) (h' : DSM W R S b (pmM p)) => sequalMt P Q R S a b (pmM p) (pmM p) W h h' hnR hnR hmR hmR)
  simp only [decide_true] at Hse
  have Hsp := Lib.hid (fun W P a (h : intE.Sl W P a p) => sisP P a p W h hEp hnp)
  go_wp2_with fail
  refine (Him.out _ _ _ Hp.out.sl).mono ?_
  rintro e w2 ⟨v1, rfl, hd2, hb2⟩
  have Hm1 := Lib.hid hd2.upto
  have Hp := Lib.hid (Hp.out.below hb2)
  have Hb := Lib.hid (below_nx Hb.out hb2)
  have hz2 := hb2.size
  clear hb2 hd2
  go_wp2_with fail
  refine (Hsm.out _ _ _ Hp.out.sl).mono ?_
  rintro e w3 ⟨v2, rfl, hd3, hb3⟩
  have Hm2 := Lib.hid hd3.upto
  have Hp := Lib.hid (Hp.out.below hb3)
  have Hm1 := Lib.hid (Hm1.out.below hb3)
  have Hb := Lib.hid (below_nx Hb.out hb3)
  have hz3 := hb3.size
  clear hb3 hd3
  go_wp2_with fail
  refine (Hse.out _ _ _ _ _ _ _ Hm1.out Hm2.out).mono ?_
  rintro e w4 ⟨rfl, hb4⟩
  have Hp := Lib.hid (Hp.out.below hb4)
  have Hm1 := Lib.hid (Hm1.out.below hb4)
  have Hm2 := Lib.hid (Hm2.out.below hb4)
  have Hb := Lib.hid (below_nx Hb.out hb4)
  have hz4 := hb4.size
  clear hb4
  go_wp2_with fail
  clear Him Hsm Hse
  cases hP : permB p with
  | false =>
    rw [hP] at Hsp
    have hm0 : pmM p = [] := if_neg (by rw [hP]; decide)
    rw [hm0] at Hm1
    refine (Hsp.out _ _ _ Hp.out.sl).mono ?_
    rintro e w5 ⟨rfl, hb5⟩
    have Hp := Lib.hid (Hp.out.below hb5)
    have Hm1 := Lib.hid (Hm1.out.below hb5)
    have Hb := Lib.hid (below_nx Hb.out hb5)
    have hz5 := hb5.size
    clear hb5
    obtain ⟨am, cm, rfl, -, -⟩ := Hm1.out
    go_wp2_with fail
    go_ret
    exact ⟨rfl, Hb.out⟩
  | true =>
    rw [hP] at Hsp
    obtain ⟨hu, ha⟩ := um_facts hP
    have hM : mtB (pmM p) = true := by
      have h1 := hu
      unfold uniB at h1
      rw [Bool.and_eq_true, Bool.and_eq_true] at h1
      exact h1.1.1
    have hEM : EbM (pmM p) := fun r hr => ok_Eb (mt_rows hM r hr).2
    have hr2 := pmM_amps (invP p)
    have hnR2 : (pmM (invP p)).length ≤ 1048576 := by omega
    have hmR2 : amps (pmM (invP p)) ≤ 1048576 := by omega
    have hil := invP_len p
    have hEi := Ei_inv hnp
    have Hun := Lib.hid (fun W P Q a (h : DSM W P Q a (pmM p)) => iuni P Q a (pmM p) W h hEM hnR hmR)
    have Had := Lib.hid (fun W P Q a (h : DSM W P Q a (pmM p)) => iadj P Q a (pmM p) W h hEM hnR hmR)
    have Hiv := Lib.hid (fun W P a (h : intE.Sl W P a p) => iinvP P a p W h hEp hnp)
    have Hi2 := Lib.hid (fun W P a (h : intE.Sl W P a (invP p)) => ipmM P a (invP p) W h hEi (by omega))
    have Hse := Lib.hid (fun W P Q R S a b (h : DSM W P Q a (pmM (invP p))) (h' : DSM W R S b (pmM (invP p))) => sequalMt P Q R S a b _ _ W h h' hnR2 hnR2 hmR2 hmR2)
    simp only [decide_true] at Hse
    rw [hu] at Hun
    rw [ha] at Had
    clear hu ha hM hEM hr2 hnR2 hmR2 hil hEi hEp hr hnR hmR
    refine (Hsp.out _ _ _ Hp.out.sl).mono ?_
    rintro e w5 ⟨rfl, hb5⟩
    have Hp := Lib.hid (Hp.out.below hb5)
    have Hm1 := Lib.hid (Hm1.out.below hb5)
    have Hb := Lib.hid (below_nx Hb.out hb5)
    have hz5 := hb5.size
    clear hb5
    go_wp2_with fail
    refine (Hun.out _ _ _ _ Hm1.out).mono ?_
    rintro e w6 ⟨rfl, hb6⟩
    have Hp := Lib.hid (Hp.out.below hb6)
    have Hm1 := Lib.hid (Hm1.out.below hb6)
    have Hb := Lib.hid (below_nx Hb.out hb6)
    have hz6 := hb6.size
    clear hb6
    go_wp2_with fail
    refine (Had.out _ _ _ _ Hm1.out).mono ?_
    rintro e w7 ⟨v3, rfl, hd7, hb7⟩
    have Had0 := Lib.hid hd7.upto
    have Hp := Lib.hid (Hp.out.below hb7)
    have Hm1 := Lib.hid (Hm1.out.below hb7)
    have Hb := Lib.hid (below_nx Hb.out hb7)
    have hz7 := hb7.size
    clear hb7 hd7
    go_wp2_with fail
    refine (Hiv.out _ _ _ Hp.out.sl).mono ?_
    rintro e w8 ⟨v4, rfl, hd8, hb8⟩
    have Hiv0 := Lib.hid hd8.upto
    have Hp := Lib.hid (Hp.out.below hb8)
    have Hm1 := Lib.hid (Hm1.out.below hb8)
    have Had0 := Lib.hid (Had0.out.below hb8)
    have Hb := Lib.hid (below_nx Hb.out hb8)
    have hz8 := hb8.size
    clear hb8 hd8
    go_wp2_with fail
    refine (Hi2.out _ _ _ Hiv0.out.sl).mono ?_
    rintro e w9 ⟨v5, rfl, hd9, hb9⟩
    have Hm3 := Lib.hid hd9.upto
    have Hp := Lib.hid (Hp.out.below hb9)
    have Hm1 := Lib.hid (Hm1.out.below hb9)
    have Had0 := Lib.hid (Had0.out.below hb9)
    have Hiv0 := Lib.hid (Hiv0.out.below hb9)
    have Hb := Lib.hid (below_nx Hb.out hb9)
    have hz9 := hb9.size
    clear hb9 hd9
    go_wp2_with fail
    refine (Hse.out _ _ _ _ _ _ _ Had0.out Hm3.out).mono ?_
    rintro e w10 ⟨rfl, hb10⟩
    have Hp := Lib.hid (Hp.out.below hb10)
    have Hm1 := Lib.hid (Hm1.out.below hb10)
    have Had0 := Lib.hid (Had0.out.below hb10)
    have Hiv0 := Lib.hid (Hiv0.out.below hb10)
    have Hm3 := Lib.hid (Hm3.out.below hb10)
    have Hb := Lib.hid (below_nx Hb.out hb10)
    have hz10 := hb10.size
    clear hb10
    go_wp2_with fail
    go_ret
    exact ⟨rfl, Hb.out⟩
set_option maxRecDepth 100000 in
set_option maxHeartbeats 400000 in
theorem walk (a0 : Option Addr) (len cap : Nat) (w : World) (hm : len ≤ maxLen) (hlc : len ≤ cap) (hc : len ≤ 1048576 → CodeAt w w.heap.size a0 len) :
    Calls Try.prog 6 #[.slice a0 len cap] w fun e w' => e = .returned (.bool true) ∧ Below w.heap.size w w' := by
  by_cases hs : len ≤ 1048576
  · exact core a0 len cap hs hlc w (hc hs)
  · unfold maxLen at hm
    clear hc
    go_enter Try.func6, Try.ntmps6
    go_wp2_with (go_at_call 15; go_in)
    go_ret
    exact ⟨rfl, Below.refl _ _⟩
open Go.ChangeMaps (open_string shut_string)
theorem laidOut : laidOutB Try.prog = true := by kernel_rfl
theorem own : ownKnob Try.prog.godebug = none := by kernel_rfl
set_option maxRecDepth 100000 in
/-- What the walk gives, for every argument. -/
theorem contract (H : Type) (enc : TypeId × Value → H) (W : World) (base : Nat) (args : Array Value) (ds gs : List (DataW H)) (before : List MemPlace)
    (hval : ∀ (j : Nat) t v, Try.f6.params[j]? = some t → args[j]? = some v → Value.okWide Try.prog W .any base t v)
    (hW : DataW.Whole enc Try.prog Try.f6.params.toList Rows.fnPermMatSpec.vars false W args.toList ds gs before) :
    Calls Try.prog 6 args W fun e W' => ∃ v, e = .returned v ∧ Rows.fnPermMatSpec.post enc Try.prog Try.f6 false true false false W args v W' := by
  have hW' := hW
  obtain ⟨p, q, hA0, hV, rfl, hfz, hnd⟩ := hW
  have hA : DataW.TrodAll enc Try.prog W 0 (fun _ => true) true Try.f6.params.toList args.toList ds p := hA0
  rw [Try.params6] at hA hval
  obtain ⟨v0, vs0, d0, ds0, p0, q0, hargs, rfl, rfl, h0, r0⟩ := trodAll_cons hA
  obtain ⟨rfl, rfl, rfl⟩ := trodAll_nil r0
  obtain rfl : args = #[v0] := by cases args; simp_all
  obtain ⟨rfl, rfl⟩ := trodVars_none hV
  obtain ⟨ca, cl, cc, rfl⟩ := okWide_slice Try.underlying22 (hval 0 22 v0 rfl rfl)
  have k0 := h0
  have lt0 : ∀ x ∈ p0, x.block < W.heap.size := by obtain ⟨m, hm⟩ := k0; exact DataW.trod_lt m _ _ _ hm
  have ch : (cl ≤ 1048576 → CodeAt W W.heap.size ca cl) ∧ cl ≤ maxLen ∧ cl ≤ cc := by
    obtain ⟨fuel, hf⟩ := h0
    rcases open_ints Try.underlying22 Try.underlying5 (by kernel_rfl) hf with ⟨hcs, _⟩ | ⟨x, l, c, zs, hcs, _, hl, hm, hz, _, hcell, hwz⟩
    · simp [Value.cells] at hcs
      obtain ⟨rfl, rfl, rfl⟩ := hcs
      exact ⟨fun _ => ⟨by omega, fun h => absurd h (by omega)⟩, Nat.zero_le _, Nat.le_refl _⟩
    · simp [Value.cells] at hcs
      obtain ⟨rfl, rfl, rfl⟩ := hcs
      have hz2 : zs.length = cc := by simpa using hz
      exact ⟨fun hs => code_of hs (by omega) hcell hwz, by omega, hl⟩
  clear hA0
  simp only [List.append_nil] at hW'
  refine (walk ca cl cc W ch.2.1 ch.2.2 ch.1).mono fun e W' ⟨he, hg⟩ => ?_
  subst he
  exact ⟨_, rfl, _, _, _, [], _, [], hW', trodAll_mk1 (shut_bool Try.underlying4 _), (trodAll_cons_mk (Below.trod laidOut (by kernel_rfl) (of_decide_eq_true (by kernel_rfl)) k0 hg lt0) trodAll_mk0), rfl, hg.frame _, fun h => by cases h⟩
set_option maxRecDepth 100000 in
theorem lifted (os : Os) (started : os.Started) (H : Type) (enc : TypeId × Value → H) :
    ReturnsInHanded {} Try.checked os 6 .any (Rows.fnPermMatSpec.pre6 enc Try.prog Try.f6 Rows.fnPermMatRow.domain false) (Rows.fnPermMatSpec.post enc Try.prog Try.f6 false true false false) := by
  refine returnsInHanded_of_change (C := Try.checked) own started (by kernel_rfl) Try.func6
    (ChangeSpec.witness6 (enc := enc) (C := Try.checked) false ⟨#[], #[.slice none 0 0], []⟩ 8 (by kernel_rfl) (by kernel_rfl) (by kernel_rfl) (by kernel_rfl)) ?_
  intro W base args ds gs before hval hW _ _
  exact contract H enc W base args ds gs before hval hW
theorem closedFacts : joinedFacts Try.pinned.checked.prog 6 Try.f6 Rows.fnPermMatSpec Rows.fnPermMatRow = true := by
  unfold joinedFacts
  rw [init_may, init_facts.2.1, init_facts.2.2]
  kernel_rfl
theorem said : Rows.FnPermMatSaid :=
  OpenClaim.holds_of_wide 6 Try.f6 rfl rfl rfl rfl rfl rfl rfl ⟨rfl, rfl, rfl, rfl, rfl⟩ rfl rfl rfl rfl rfl (by kernel_rfl) Try.func6 closedFacts
    (of_decide_eq_true (by kernel_rfl)) (by unfold Func.isWrapper; first | (rw [if_pos (by decide +kernel)]; kernel_rfl) | (rw [if_neg (by decide +kernel)]; exact ⟨rfl, rfl⟩))
    (fun os started H enc _ => lifted os started H enc)
end Go.Proofs.Ytkcpemkahkkcmaa.fnPermMat
