/- The law FnRunGates: applying two sequences in turn equals applying their concatenation, at every code. No condition. -/
import Derived.Test.YtkcpemkahkkcmaaInit
import Derived.Test.YtkcpemkahkkcmaaBaseB19
import Derived.Test.YtkcpemkahkkcmaaBaseB21
import Derived.Test.YtkcpemkahkkcmaaBaseB14
import Derived.Test.YtkcpemkahkkcmaaBaseB23
import Derived.Test.YtkcpemkahkkcmaaBaseB09
import Derived.Test.YtkcpemkahkkcmaaBaseB17
import Derived.Lib.SmallJoins
import Derived.WalkKit
import Derived.ProofKit
import Derived.OpenShut
import Derived.Deep.DeepHandedRow
import Derived.Lib.LaidTab
import Derived.LaidMore
import Derived.LaidHandle
import Derived.Lay
import Derived.Stop.LaidErr
namespace Go.Proofs.Ytkcpemkahkkcmaa.fnRunGates
open Go.ChangeShapes Go.WideShapes Go.ChangeAt Go.RowKit Go.Lib
attribute [local irreducible] World.cell?
set_option maxRecDepth 100000 in
set_option maxHeartbeats 6400000 in
theorem core (a0 : Option Addr) (len cap : Nat) (hs : len ≤ 1048576) (hlc : len ≤ cap) (w : World) (hcode : CodeAt w w.heap.size a0 len) :
    Calls Try.prog 7 #[.slice a0 len cap] w fun e w' => e = .returned (.bool true) ∧ Below w.heap.size w w' := by
  have Hc := Lib.hid hcode
  have Hb := Lib.hid (Below.refl w.heap.size w)
  clear hcode
  go_enter Try.func7, Try.ntmps7
  go_wp2_with (go_at_call 15; go_in)
  refine (drawAgs a0 len cap _ Hc.out).mono ?_
  rintro e w1 ⟨⟨p, v, L, l, rfl, hL9, hl16, hEl, hdL, hdv⟩, hb1⟩
  have hnl : l.length ≤ 1048576 := by omega
  have hnL : L.length ≤ 1048576 := by omega
  have hlV := agsV_le L l
  have hnV : (agsV L l).length ≤ 1048576 := by omega
  have Hrun := Lib.hid (fun W B C x u (h1 : gtE.Sl W C x L) (h2 : DSl W B u l) => iapGs B C x u L l W h1 h2 hEl hnl hnL)
  have Hsp := Lib.hid (fun W B C x u (h1 : gtE.Sl W C x L) (h2 : DSl W B u l) => sapGs B C x u L l W h1 h2 hnl hnL)
  have H1 := Lib.hid (fun (k : Nat) W B u a c (h1 : GsIn W W.heap.size a (L.take k)) (h2 : DSl W B u l) => iapGs0 B a c u (L.take k) l W h1 h2 hEl hnl (by rw [List.length_take]; omega))
  have H2 := Lib.hid (fun (k : Nat) W B u a c (h1 : GsIn W W.heap.size a (L.drop k)) (h2 : DSl W B u (agsV (L.take k) l)) => iapGs0 B a c u (L.drop k) (agsV (L.take k) l) W h1 h2 (fun x hx => ok_eb (agsV_ok' _ _ x hx)) (Nat.le_trans (agsV_le _ _) hnl) (by rw [List.length_drop]; omega))
  have Hsplit := Lib.hid (fun (k : Nat) (h : agsB L l = true) => ags_splitV k h)
  have hno : agsB L l = false → agsV L l = [] := fun h => agsV_no h
  have Heu := Lib.hid (fun W B C a b (h1 : DSl W B a (agsV L l)) (h2 : DSl W C b (agsV L l)) => sequalSt B C a b (agsV L l) (agsV L l) W h1 h2 hnV hnV)
  rw [decide_eq_true (rfl : agsV L l = agsV L l)] at Heu
  have Hno := Lib.hid hno
  have HL := Lib.hid hdL
  have Hv := Lib.hid hdv
  have Hb := Lib.hid hb1
  obtain ⟨pL, cL, rfl, hcL, -⟩ := id hdL
  obtain ⟨pv, cv, rfl, hcv, -⟩ := id hdv
  have hz1 := hb1.size
  generalize hu : agsV L l = u at *
  generalize hok : agsB L l = ok at *
  clear hdL hdv hb1 hno hEl
  have hu := Lib.hid hu
  have hok := Lib.hid hok
  go_wp2_with fail
  refine (Hrun.out _ _ _ _ _ HL.out Hv.out).mono ?_
  rintro e w2 ⟨⟨vu, rfl, hd2⟩, hb2⟩
  have Hu := Lib.hid hd2
  have Hv := Lib.hid (Hv.out.below hb2)
  have HL := Lib.hid (HL.out.below hb2)
  have Hb := Lib.hid (below_nx Hb.out hb2)
  have hz2 := hb2.size
  clear hb2 hd2
  go_wp2_with fail
  refine (Hsp.out _ _ _ _ _ HL.out Hv.out).mono ?_
  rintro e w3 ⟨⟨vs, rfl, hd3⟩, hb3⟩
  have Hs := Lib.hid hd3
  have Hv := Lib.hid (Hv.out.below hb3)
  have HL := Lib.hid (HL.out.below hb3)
  have Hu := Lib.hid (Hu.out.below hb3)
  have Hb := Lib.hid (below_nx Hb.out hb3)
  have hz3 := hb3.size
  clear hb3 hd3
  have hneq : (ok != ok) = false := by simp
  go_wp2_with fail
  refine (Heu.out _ _ _ _ _ Hu.out Hs.out).mono ?_
  rintro e w4 ⟨rfl, hb4⟩
  have Hv := Lib.hid (Hv.out.below hb4)
  have HL := Lib.hid (HL.out.below hb4)
  have Hu := Lib.hid (Hu.out.below hb4)
  have Hs := Lib.hid (Hs.out.below hb4)
  have Hb := Lib.hid (below_nx Hb.out hb4)
  have hz4 := hb4.size
  clear hb4
  go_wp2_with fail
  refine (at0_any a0 len cap 3 (by omega) _ hlc hs ((Hc.out.below Hb.out).mono Hb.out.size)).mono ?_
  rintro e wA ⟨⟨q, rfl, q0, q1⟩, rfl⟩
  obtain ⟨q, rfl⟩ : ∃ n : Nat, q = n := ⟨q.toNat, by omega⟩
  obtain ⟨k, hk⟩ : ∃ k, k = q % (L.length + 1) := ⟨_, rfl⟩
  have hkl : k ≤ L.length := by have := Nat.mod_lt q (show 0 < L.length + 1 by omega); omega
  have ht : (q : Int).tmod ((L.length : Int) + 1) = (k : Int) := by rw [hk, Int.tmod_eq_emod_of_nonneg (by omega)]; simp
  have hlk : (L.take k).length = k := by rw [List.length_take]; omega
  have hld : (L.drop k).length = L.length - k := by rw [List.length_drop]
  have H1 := Lib.hid (H1.out k)
  have H2 := Lib.hid (H2.out k)
  have Hsplit := Lib.hid (Hsplit.out k)
  rw [hlk] at H1
  rw [hld] at H2
  generalize agsV (L.drop k) (agsV (L.take k) l) = b2 at *
  generalize agsB (L.drop k) (agsV (L.take k) l) = two at *
  generalize agsV (L.take k) l = b1 at *
  generalize agsB (L.take k) l = one at *
  clear hk hlk hld
  go_wp2_with fail
  refine (H1.out _ _ _ _ _ (GsIn.of_slice (HL.out.take k hkl) (by rw [List.length_take]; omega)) Hv.out).mono ?_
  rintro e w5 ⟨⟨va, rfl, hd5⟩, hb5⟩
  have Ha := Lib.hid hd5
  have Hv := Lib.hid (Hv.out.below hb5)
  have HL := Lib.hid (HL.out.below hb5)
  have Hu := Lib.hid (Hu.out.below hb5)
  have Hb := Lib.hid (below_nx Hb.out hb5)
  have hz5 := hb5.size
  clear hb5 hd5
  go_wp2_with fail
  all_goals
    refine (H2.out _ _ _ _ _ (by first | exact GsIn.drop_slice (k := k) HL.out hnL | exact GsIn.empty (by rw [List.length_drop]; omega)) Ha.out).mono ?_
    rintro e w6 ⟨⟨vb, rfl, hd6⟩, hb6⟩
    have Hz := Lib.hid hd6
    have Hv := Lib.hid (Hv.out.below hb6)
    have HL := Lib.hid (HL.out.below hb6)
    have Hu := Lib.hid (Hu.out.below hb6)
    have Ha := Lib.hid (Ha.out.below hb6)
    have Hb := Lib.hid (below_nx Hb.out hb6)
    have hz6 := hb6.size
    clear hb6 hd6
    cases ok with
    | false =>
      go_wp2_with fail
      go_ret
      exact ⟨rfl, Hb.out⟩
    | true =>
      obtain ⟨s1, s2, s3⟩ := Hsplit.out (by simp)
      subst s1 s2
      rw [s3] at Hz
      go_wp2_with fail
      refine (Heu.out _ _ _ _ _ Hz.out Hu.out).mono ?_
      rintro e wE ⟨rfl, hbE⟩
      have HbE := Lib.hid (below_nx Hb.out hbE)
      clear hbE
      go_wp2_with fail
      go_ret
      exact ⟨rfl, HbE.out⟩
set_option maxRecDepth 100000 in
set_option maxHeartbeats 400000 in
theorem walk (a0 : Option Addr) (len cap : Nat) (w : World) (hm : len ≤ maxLen) (hlc : len ≤ cap) (hc : len ≤ 1048576 → CodeAt w w.heap.size a0 len) :
    Calls Try.prog 7 #[.slice a0 len cap] w fun e w' => e = .returned (.bool true) ∧ Below w.heap.size w w' := by
  by_cases hs : len ≤ 1048576
  · exact core a0 len cap hs hlc w (hc hs)
  · unfold maxLen at hm
    clear hc
    go_enter Try.func7, Try.ntmps7
    go_wp2_with (go_at_call 15; go_in)
    go_ret
    exact ⟨rfl, Below.refl _ _⟩
open Go.ChangeMaps (open_string shut_string)
theorem laidOut : laidOutB Try.prog = true := by kernel_rfl
theorem own : ownKnob Try.prog.godebug = none := by kernel_rfl
set_option maxRecDepth 100000 in
/-- What the walk gives, for every argument. -/
theorem contract (H : Type) (enc : TypeId × Value → H) (W : World) (base : Nat) (args : Array Value) (ds gs : List (DataW H)) (before : List MemPlace)
    (hval : ∀ (j : Nat) t v, Try.f7.params[j]? = some t → args[j]? = some v → Value.okWide Try.prog W .any base t v)
    (hW : DataW.Whole enc Try.prog Try.f7.params.toList Rows.fnRunGatesSpec.vars false W args.toList ds gs before) :
    Calls Try.prog 7 args W fun e W' => ∃ v, e = .returned v ∧ Rows.fnRunGatesSpec.post enc Try.prog Try.f7 false true false false W args v W' := by
  have hW' := hW
  obtain ⟨p, q, hA0, hV, rfl, hfz, hnd⟩ := hW
  have hA : DataW.TrodAll enc Try.prog W 0 (fun _ => true) true Try.f7.params.toList args.toList ds p := hA0
  rw [Try.params7] at hA hval
  obtain ⟨v0, vs0, d0, ds0, p0, q0, hargs, rfl, rfl, h0, r0⟩ := trodAll_cons hA
  obtain ⟨rfl, rfl, rfl⟩ := trodAll_nil r0
  obtain rfl : args = #[v0] := by cases args; simp_all
  obtain ⟨rfl, rfl⟩ := trodVars_none hV
  obtain ⟨ca, cl, cc, rfl⟩ := okWide_slice Try.underlying22 (hval 0 22 v0 rfl rfl)
  have k0 := h0
  have lt0 : ∀ x ∈ p0, x.block < W.heap.size := by obtain ⟨m, hm⟩ := k0; exact DataW.trod_lt m _ _ _ hm
  have ch : (cl ≤ 1048576 → CodeAt W W.heap.size ca cl) ∧ cl ≤ maxLen ∧ cl ≤ cc := by
    obtain ⟨fuel, hf⟩ := h0
    rcases open_ints Try.underlying22 Try.underlying5 (by kernel_rfl) hf with ⟨hcs, _⟩ | ⟨x, l, c, zs, hcs, _, hl, hm, hz, _, hcell, hwz⟩
    · simp [Value.cells] at hcs
      obtain ⟨rfl, rfl, rfl⟩ := hcs
      exact ⟨fun _ => ⟨by omega, fun h => absurd h (by omega)⟩, Nat.zero_le _, Nat.le_refl _⟩
    · simp [Value.cells] at hcs
      obtain ⟨rfl, rfl, rfl⟩ := hcs
      have hz2 : zs.length = cc := by simpa using hz
      exact ⟨fun hs => code_of hs (by omega) hcell hwz, by omega, hl⟩
  clear hA0
  simp only [List.append_nil] at hW'
  refine (walk ca cl cc W ch.2.1 ch.2.2 ch.1).mono fun e W' ⟨he, hg⟩ => ?_
  subst he
  exact ⟨_, rfl, _, _, _, [], _, [], hW', trodAll_mk1 (shut_bool Try.underlying4 _), (trodAll_cons_mk (Below.trod laidOut (by kernel_rfl) (of_decide_eq_true (by kernel_rfl)) k0 hg lt0) trodAll_mk0), rfl, hg.frame _, fun h => by cases h⟩
set_option maxRecDepth 100000 in
theorem lifted (os : Os) (started : os.Started) (H : Type) (enc : TypeId × Value → H) :
    ReturnsInHanded {} Try.checked os 7 .any (Rows.fnRunGatesSpec.pre6 enc Try.prog Try.f7 Rows.fnRunGatesRow.domain false) (Rows.fnRunGatesSpec.post enc Try.prog Try.f7 false true false false) := by
  refine returnsInHanded_of_change (C := Try.checked) own started (by kernel_rfl) Try.func7
    (ChangeSpec.witness6 (enc := enc) (C := Try.checked) false ⟨#[], #[.slice none 0 0], []⟩ 8 (by kernel_rfl) (by kernel_rfl) (by kernel_rfl) (by kernel_rfl)) ?_
  intro W base args ds gs before hval hW _ _
  exact contract H enc W base args ds gs before hval hW
theorem closedFacts : joinedFacts Try.pinned.checked.prog 7 Try.f7 Rows.fnRunGatesSpec Rows.fnRunGatesRow = true := by
  unfold joinedFacts
  rw [init_may, init_facts.2.1, init_facts.2.2]
  kernel_rfl
theorem said : Rows.FnRunGatesSaid :=
  OpenClaim.holds_of_wide 7 Try.f7 rfl rfl rfl rfl rfl rfl rfl ⟨rfl, rfl, rfl, rfl, rfl⟩ rfl rfl rfl rfl rfl (by kernel_rfl) Try.func7 closedFacts
    (of_decide_eq_true (by kernel_rfl)) (by unfold Func.isWrapper; first | (rw [if_pos (by decide +kernel)]; kernel_rfl) | (rw [if_neg (by decide +kernel)]; exact ⟨rfl, rfl⟩))
    (fun os started H enc _ => lifted os started H enc)
end Go.Proofs.Ytkcpemkahkkcmaa.fnRunGates
