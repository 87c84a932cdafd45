/- The law FnMoved: PermuteIndex respects composition, at every code. No condition. -/
import Derived.Test.YtkcpemkahkkcmaaInit
import Derived.Test.YtkcpemkahkkcmaaBaseB24
import Derived.Test.YtkcpemkahkkcmaaPmU
import Derived.Test.YtkcpemkahkkcmaaBaseB27
import Derived.Test.YtkcpemkahkkcmaaBaseB04
import Derived.Test.YtkcpemkahkkcmaaBaseB20
import Derived.Test.YtkcpemkahkkcmaaBaseB17
import Derived.Lib.SmallJoins
import Derived.WalkKit
import Derived.ProofKit
import Derived.OpenShut
import Derived.Deep.DeepHandedRow
import Derived.Lib.LaidTab
import Derived.LaidMore
import Derived.LaidHandle
import Derived.Lay
import Derived.Stop.LaidErr
namespace Go.Proofs.Ytkcpemkahkkcmaa.fnMoved
open Go.ChangeShapes Go.WideShapes Go.ChangeAt Go.RowKit Go.Lib
attribute [local irreducible] World.cell?
set_option maxRecDepth 100000 in
set_option maxHeartbeats 6400000 in
theorem core (a0 : Option Addr) (len cap : Nat) (hs : len ≤ 1048576) (hlc : len ≤ cap) (w : World) (hcode : CodeAt w w.heap.size a0 len) :
    Calls Try.prog 5 #[.slice a0 len cap] w fun e w' => e = .returned (.bool true) ∧ Below w.heap.size w w' := by
  have Hc := Lib.hid hcode
  have Hb := Lib.hid (Below.refl w.heap.size w)
  clear hcode
  go_enter Try.func5, Try.ntmps5
  go_wp2_with (go_at_call 15; go_in)
  refine (drawCmpP a0 len cap _ Hc.out).mono ?_
  rintro e w1 ⟨⟨vp, vq, p, q, rfl, hlp, hlq, hEp, hEq, hdu, hdv⟩, hb1⟩
  have hnp : p.length ≤ 1048576 := by omega
  have hnq : q.length ≤ 1048576 := by omega
  have Hp := Lib.hid hdu.upto
  have Hq := Lib.hid hdv.upto
  have Hb := Lib.hid (below_nx Hb.out hb1)
  have hz1 := hb1.size
  clear hdu hdv hb1
  have Hsm := Lib.hid (fun W P Q a b (h1 : intE.Sl W P a p) (h2 : intE.Sl W Q b q) => scmpP P Q a b p q W h1 h2 hEp hEq hnp hnq)
  have hcl := cmpP_len p q
  have hnr : (cmpP p q).length ≤ 1048576 := by omega
  have hEr := Ei_cmp (p := p) hEq
  go_wp2_with fail
  refine (Hsm.out _ _ _ _ _ Hp.out.sl Hq.out.sl).mono ?_
  rintro e w2 ⟨v1, rfl, hd2, hb2⟩
  have Hr := Lib.hid hd2.upto
  have Hp := Lib.hid (Hp.out.below hb2)
  have Hq := Lib.hid (Hq.out.below hb2)
  have Hb := Lib.hid (below_nx Hb.out hb2)
  have hz2 := hb2.size
  clear hb2 hd2
  by_cases h0 : (cmpP p q).length = 0
  · have hnil := cmpP_zero h0
    have Hix := Lib.hid (fun W P a (h : intE.Sl W P a []) => ipix P a [] 1 W h (fun x hx => absurd hx List.not_mem_nil) (Nat.zero_le _) (by omega) (by omega))
    rw [pix_nil] at Hix
    rw [hnil] at Hr
    obtain ⟨ra, rc, rfl, -, -⟩ := Hr.out.sl
    clear Hsm hcl hnr hEr h0 hnil
    go_wp2_with fail
    refine (Hix.out _ _ _ Hr.out.sl).mono ?_
    rintro e w3 ⟨rfl, hb3⟩
    have Hp := Lib.hid (Hp.out.below hb3)
    have Hq := Lib.hid (Hq.out.below hb3)
    have Hr := Lib.hid (Hr.out.below hb3)
    have Hb := Lib.hid (below_nx Hb.out hb3)
    have hz3 := hb3.size
    clear hb3
    go_wp2_with fail
    go_ret
    exact ⟨rfl, Hb.out⟩
  · obtain ⟨hP, hQ, hl⟩ := cmpP_nil h0
    obtain ⟨-, hcl2, f3⟩ := cmp_facts hP hQ hl
    have h4 := (permB_iff.1 hP).2
    have Hxp := Lib.hid (fun (i : Int) (h0 : 0 ≤ i ∧ i < 16) W P a (h : intE.Sl W P a p) => ipix P a p i W h hEp hnp (by omega) (by omega))
    have Hxq := Lib.hid (fun (i : Int) (h0 : 0 ≤ i ∧ i < 16) W P a (h : intE.Sl W P a q) => ipix P a q i W h hEq hnq (by omega) (by omega))
    have Hxr := Lib.hid (fun (i : Int) (h0 : 0 ≤ i ∧ i < 16) W P a (h : intE.Sl W P a (cmpP p q)) => ipix P a (cmpP p q) i W h hEr hnr (by omega) (by omega))
    have Hsx := Lib.hid (fun (i : Int) (h0 : 0 ≤ i ∧ i < 16) W P a (h : intE.Sl W P a p) => spix P a p i W h hEp hnp (by omega) (by omega))
    have Hrg := Lib.hid (fun (i : Int) => pix_rg (p := p) i)
    have Heq := Lib.hid f3
    rw [hcl2] at h0
    have hr2 := Hr.out.sl
    obtain ⟨ra, rc, rfl, -, -⟩ := hr2
    have hp2 := Hp.out.sl
    obtain ⟨pa, pc, rfl, -, -⟩ := hp2
    rw [hcl2]
    rw [hcl2] at Hr
    clear Hsm hcl hnr hEr hcl2 hP hQ f3 hEp hEq hnp hnq
    generalize cmpP p q = r at *
    rcases (show p.length = 1 ∨ p.length = 2 ∨ p.length = 3 ∨ p.length = 4 by omega) with e4 | e4 | e4 | e4
    · rw [e4]
      rw [e4] at Hr Hp Heq
      have hd0 : ((1 : Int) == 0) = false := rfl
      clear e4 h4 h0 hlp hlq hl
      go_wp2_with fail
      refine (at0_any a0 len cap 3 (by omega) _ hlc hs ((Hc.out.below Hb.out).mono Hb.out.size)).mono ?_
      rintro e w3 ⟨⟨z, rfl, z0, z1⟩, rfl⟩
      obtain ⟨m, hm⟩ : ∃ m : Nat, z.tmod 2 = m := ⟨(z.tmod 2).toNat, by have := Int.tmod_eq_emod_of_nonneg (b := 2) z0; omega⟩
      have hmN : m < 2 := by have := Int.tmod_eq_emod_of_nonneg (b := 2) z0; omega
      have hf := Heq.out m (by omega)
      have hrg := Hrg.out (m : Int)
      have Hx1 := Lib.hid (Hxp.out (m : Int) (by omega))
      have Hx2 := Lib.hid (Hxq.out (pix p (m : Int)) hrg)
      have Hx3 := Lib.hid (Hxr.out (m : Int) (by omega))
      have Hx5 := Lib.hid (Hsx.out (m : Int) (by omega))
      rw [hf] at Hx2
      clear Hxp Hxq Hxr Hsx Hrg Heq hf hrg hmN
      generalize pix p (m : Int) = i1 at *
      generalize pix r (m : Int) = i2 at *
      have hm2 := hm
      go_wp2_with fail
      refine (Hx1.out _ _ _ Hp.out.sl).mono ?_
      rintro e w4 ⟨rfl, hb4⟩
      have Hp := Lib.hid (Hp.out.below hb4)
      have Hq := Lib.hid (Hq.out.below hb4)
      have Hr := Lib.hid (Hr.out.below hb4)
      have Hb := Lib.hid (below_nx Hb.out hb4)
      have hz4 := hb4.size
      clear hb4
      go_wp2_with fail
      refine (Hx2.out _ _ _ Hq.out.sl).mono ?_
      rintro e w5 ⟨rfl, hb5⟩
      have Hp := Lib.hid (Hp.out.below hb5)
      have Hq := Lib.hid (Hq.out.below hb5)
      have Hr := Lib.hid (Hr.out.below hb5)
      have Hb := Lib.hid (below_nx Hb.out hb5)
      have hz5 := hb5.size
      clear hb5
      go_wp2_with fail
      refine (Hx3.out _ _ _ Hr.out.sl).mono ?_
      rintro e w6 ⟨rfl, hb6⟩
      have Hp := Lib.hid (Hp.out.below hb6)
      have Hq := Lib.hid (Hq.out.below hb6)
      have Hr := Lib.hid (Hr.out.below hb6)
      have Hb := Lib.hid (below_nx Hb.out hb6)
      have hz6 := hb6.size
      clear hb6
      go_wp2_with fail
      refine (Hx1.out _ _ _ Hp.out.sl).mono ?_
      rintro e w7 ⟨rfl, hb7⟩
      have Hp := Lib.hid (Hp.out.below hb7)
      have Hq := Lib.hid (Hq.out.below hb7)
      have Hr := Lib.hid (Hr.out.below hb7)
      have Hb := Lib.hid (below_nx Hb.out hb7)
      have hz7 := hb7.size
      clear hb7
      go_wp2_with fail
      refine (Hx5.out _ _ _ Hp.out.sl).mono ?_
      rintro e w8 ⟨rfl, hb8⟩
      have Hp := Lib.hid (Hp.out.below hb8)
      have Hq := Lib.hid (Hq.out.below hb8)
      have Hr := Lib.hid (Hr.out.below hb8)
      have Hb := Lib.hid (below_nx Hb.out hb8)
      have hz8 := hb8.size
      clear hb8
      go_wp2_with fail
      go_ret
      exact ⟨rfl, Hb.out⟩
    · rw [e4]
      rw [e4] at Hr Hp Heq
      have hd0 : ((2 : Int) == 0) = false := rfl
      clear e4 h4 h0 hlp hlq hl
      go_wp2_with fail
      refine (at0_any a0 len cap 3 (by omega) _ hlc hs ((Hc.out.below Hb.out).mono Hb.out.size)).mono ?_
      rintro e w3 ⟨⟨z, rfl, z0, z1⟩, rfl⟩
      obtain ⟨m, hm⟩ : ∃ m : Nat, z.tmod 4 = m := ⟨(z.tmod 4).toNat, by have := Int.tmod_eq_emod_of_nonneg (b := 4) z0; omega⟩
      have hmN : m < 4 := by have := Int.tmod_eq_emod_of_nonneg (b := 4) z0; omega
      have hf := Heq.out m (by omega)
      have hrg := Hrg.out (m : Int)
      have Hx1 := Lib.hid (Hxp.out (m : Int) (by omega))
      have Hx2 := Lib.hid (Hxq.out (pix p (m : Int)) hrg)
      have Hx3 := Lib.hid (Hxr.out (m : Int) (by omega))
      have Hx5 := Lib.hid (Hsx.out (m : Int) (by omega))
      rw [hf] at Hx2
      clear Hxp Hxq Hxr Hsx Hrg Heq hf hrg hmN
      generalize pix p (m : Int) = i1 at *
      generalize pix r (m : Int) = i2 at *
      have hm2 := hm
      go_wp2_with fail
      refine (Hx1.out _ _ _ Hp.out.sl).mono ?_
      rintro e w4 ⟨rfl, hb4⟩
      have Hp := Lib.hid (Hp.out.below hb4)
      have Hq := Lib.hid (Hq.out.below hb4)
      have Hr := Lib.hid (Hr.out.below hb4)
      have Hb := Lib.hid (below_nx Hb.out hb4)
      have hz4 := hb4.size
      clear hb4
      go_wp2_with fail
      refine (Hx2.out _ _ _ Hq.out.sl).mono ?_
      rintro e w5 ⟨rfl, hb5⟩
      have Hp := Lib.hid (Hp.out.below hb5)
      have Hq := Lib.hid (Hq.out.below hb5)
      have Hr := Lib.hid (Hr.out.below hb5)
      have Hb := Lib.hid (below_nx Hb.out hb5)
      have hz5 := hb5.size
      clear hb5
      go_wp2_with fail
      refine (Hx3.out _ _ _ Hr.out.sl).mono ?_
      rintro e w6 ⟨rfl, hb6⟩
      have Hp := Lib.hid (Hp.out.below hb6)
      have Hq := Lib.hid (Hq.out.below hb6)
      have Hr := Lib.hid (Hr.out.below hb6)
      have Hb := Lib.hid (below_nx Hb.out hb6)
      have hz6 := hb6.size
      clear hb6
      go_wp2_with fail
      refine (Hx1.out _ _ _ Hp.out.sl).mono ?_
      rintro e w7 ⟨rfl, hb7⟩
      have Hp := Lib.hid (Hp.out.below hb7)
      have Hq := Lib.hid (Hq.out.below hb7)
      have Hr := Lib.hid (Hr.out.below hb7)
      have Hb := Lib.hid (below_nx Hb.out hb7)
      have hz7 := hb7.size
      clear hb7
      go_wp2_with fail
      refine (Hx5.out _ _ _ Hp.out.sl).mono ?_
      rintro e w8 ⟨rfl, hb8⟩
      have Hp := Lib.hid (Hp.out.below hb8)
      have Hq := Lib.hid (Hq.out.below hb8)
      have Hr := Lib.hid (Hr.out.below hb8)
      have Hb := Lib.hid (below_nx Hb.out hb8)
      have hz8 := hb8.size
      clear hb8
      go_wp2_with fail
      go_ret
      exact ⟨rfl, Hb.out⟩
    · rw [e4]
      rw [e4] at Hr Hp Heq
      have hd0 : ((3 : Int) == 0) = false := rfl
      clear e4 h4 h0 hlp hlq hl
      go_wp2_with fail
      refine (at0_any a0 len cap 3 (by omega) _ hlc hs ((Hc.out.below Hb.out).mono Hb.out.size)).mono ?_
      rintro e w3 ⟨⟨z, rfl, z0, z1⟩, rfl⟩
      obtain ⟨m, hm⟩ : ∃ m : Nat, z.tmod 8 = m := ⟨(z.tmod 8).toNat, by have := Int.tmod_eq_emod_of_nonneg (b := 8) z0; omega⟩
      have hmN : m < 8 := by have := Int.tmod_eq_emod_of_nonneg (b := 8) z0; omega
      have hf := Heq.out m (by omega)
      have hrg := Hrg.out (m : Int)
      have Hx1 := Lib.hid (Hxp.out (m : Int) (by omega))
      have Hx2 := Lib.hid (Hxq.out (pix p (m : Int)) hrg)
      have Hx3 := Lib.hid (Hxr.out (m : Int) (by omega))
      have Hx5 := Lib.hid (Hsx.out (m : Int) (by omega))
      rw [hf] at Hx2
      clear Hxp Hxq Hxr Hsx Hrg Heq hf hrg hmN
      generalize pix p (m : Int) = i1 at *
      generalize pix r (m : Int) = i2 at *
      have hm2 := hm
      go_wp2_with fail
      refine (Hx1.out _ _ _ Hp.out.sl).mono ?_
      rintro e w4 ⟨rfl, hb4⟩
      have Hp := Lib.hid (Hp.out.below hb4)
      have Hq := Lib.hid (Hq.out.below hb4)
      have Hr := Lib.hid (Hr.out.below hb4)
      have Hb := Lib.hid (below_nx Hb.out hb4)
      have hz4 := hb4.size
      clear hb4
      go_wp2_with fail
      refine (Hx2.out _ _ _ Hq.out.sl).mono ?_
      rintro e w5 ⟨rfl, hb5⟩
      have Hp := Lib.hid (Hp.out.below hb5)
      have Hq := Lib.hid (Hq.out.below hb5)
      have Hr := Lib.hid (Hr.out.below hb5)
      have Hb := Lib.hid (below_nx Hb.out hb5)
      have hz5 := hb5.size
      clear hb5
      go_wp2_with fail
      refine (Hx3.out _ _ _ Hr.out.sl).mono ?_
      rintro e w6 ⟨rfl, hb6⟩
      have Hp := Lib.hid (Hp.out.below hb6)
      have Hq := Lib.hid (Hq.out.below hb6)
      have Hr := Lib.hid (Hr.out.below hb6)
      have Hb := Lib.hid (below_nx Hb.out hb6)
      have hz6 := hb6.size
      clear hb6
      go_wp2_with fail
      refine (Hx1.out _ _ _ Hp.out.sl).mono ?_
      rintro e w7 ⟨rfl, hb7⟩
      have Hp := Lib.hid (Hp.out.below hb7)
      have Hq := Lib.hid (Hq.out.below hb7)
      have Hr := Lib.hid (Hr.out.below hb7)
      have Hb := Lib.hid (below_nx Hb.out hb7)
      have hz7 := hb7.size
      clear hb7
      go_wp2_with fail
      refine (Hx5.out _ _ _ Hp.out.sl).mono ?_
      rintro e w8 ⟨rfl, hb8⟩
      have Hp := Lib.hid (Hp.out.below hb8)
      have Hq := Lib.hid (Hq.out.below hb8)
      have Hr := Lib.hid (Hr.out.below hb8)
      have Hb := Lib.hid (below_nx Hb.out hb8)
      have hz8 := hb8.size
      clear hb8
      go_wp2_with fail
      go_ret
      exact ⟨rfl, Hb.out⟩
    · rw [e4]
      rw [e4] at Hr Hp Heq
      have hd0 : ((4 : Int) == 0) = false := rfl
      clear e4 h4 h0 hlp hlq hl
      go_wp2_with fail
      refine (at0_any a0 len cap 3 (by omega) _ hlc hs ((Hc.out.below Hb.out).mono Hb.out.size)).mono ?_
      rintro e w3 ⟨⟨z, rfl, z0, z1⟩, rfl⟩
      obtain ⟨m, hm⟩ : ∃ m : Nat, z.tmod 16 = m := ⟨(z.tmod 16).toNat, by have := Int.tmod_eq_emod_of_nonneg (b := 16) z0; omega⟩
      have hmN : m < 16 := by have := Int.tmod_eq_emod_of_nonneg (b := 16) z0; omega
      have hf := Heq.out m (by omega)
      have hrg := Hrg.out (m : Int)
      have Hx1 := Lib.hid (Hxp.out (m : Int) (by omega))
      have Hx2 := Lib.hid (Hxq.out (pix p (m : Int)) hrg)
      have Hx3 := Lib.hid (Hxr.out (m : Int) (by omega))
      have Hx5 := Lib.hid (Hsx.out (m : Int) (by omega))
      rw [hf] at Hx2
      clear Hxp Hxq Hxr Hsx Hrg Heq hf hrg hmN
      generalize pix p (m : Int) = i1 at *
      generalize pix r (m : Int) = i2 at *
      have hm2 := hm
      go_wp2_with fail
      refine (Hx1.out _ _ _ Hp.out.sl).mono ?_
      rintro e w4 ⟨rfl, hb4⟩
      have Hp := Lib.hid (Hp.out.below hb4)
      have Hq := Lib.hid (Hq.out.below hb4)
      have Hr := Lib.hid (Hr.out.below hb4)
      have Hb := Lib.hid (below_nx Hb.out hb4)
      have hz4 := hb4.size
      clear hb4
      go_wp2_with fail
      refine (Hx2.out _ _ _ Hq.out.sl).mono ?_
      rintro e w5 ⟨rfl, hb5⟩
      have Hp := Lib.hid (Hp.out.below hb5)
      have Hq := Lib.hid (Hq.out.below hb5)
      have Hr := Lib.hid (Hr.out.below hb5)
      have Hb := Lib.hid (below_nx Hb.out hb5)
      have hz5 := hb5.size
      clear hb5
      go_wp2_with fail
      refine (Hx3.out _ _ _ Hr.out.sl).mono ?_
      rintro e w6 ⟨rfl, hb6⟩
      have Hp := Lib.hid (Hp.out.below hb6)
      have Hq := Lib.hid (Hq.out.below hb6)
      have Hr := Lib.hid (Hr.out.below hb6)
      have Hb := Lib.hid (below_nx Hb.out hb6)
      have hz6 := hb6.size
      clear hb6
      go_wp2_with fail
      refine (Hx1.out _ _ _ Hp.out.sl).mono ?_
      rintro e w7 ⟨rfl, hb7⟩
      have Hp := Lib.hid (Hp.out.below hb7)
      have Hq := Lib.hid (Hq.out.below hb7)
      have Hr := Lib.hid (Hr.out.below hb7)
      have Hb := Lib.hid (below_nx Hb.out hb7)
      have hz7 := hb7.size
      clear hb7
      go_wp2_with fail
      refine (Hx5.out _ _ _ Hp.out.sl).mono ?_
      rintro e w8 ⟨rfl, hb8⟩
      have Hp := Lib.hid (Hp.out.below hb8)
      have Hq := Lib.hid (Hq.out.below hb8)
      have Hr := Lib.hid (Hr.out.below hb8)
      have Hb := Lib.hid (below_nx Hb.out hb8)
      have hz8 := hb8.size
      clear hb8
      go_wp2_with fail
      go_ret
      exact ⟨rfl, Hb.out⟩
set_option maxRecDepth 100000 in
set_option maxHeartbeats 400000 in
theorem walk (a0 : Option Addr) (len cap : Nat) (w : World) (hm : len ≤ maxLen) (hlc : len ≤ cap) (hc : len ≤ 1048576 → CodeAt w w.heap.size a0 len) :
    Calls Try.prog 5 #[.slice a0 len cap] w fun e w' => e = .returned (.bool true) ∧ Below w.heap.size w w' := by
  by_cases hs : len ≤ 1048576
  · exact core a0 len cap hs hlc w (hc hs)
  · unfold maxLen at hm
    clear hc
    go_enter Try.func5, Try.ntmps5
    go_wp2_with (go_at_call 15; go_in)
    go_ret
    exact ⟨rfl, Below.refl _ _⟩
open Go.ChangeMaps (open_string shut_string)
theorem laidOut : laidOutB Try.prog = true := by kernel_rfl
theorem own : ownKnob Try.prog.godebug = none := by kernel_rfl
set_option maxRecDepth 100000 in
/-- What the walk gives, for every argument. -/
theorem contract (H : Type) (enc : TypeId × Value → H) (W : World) (base : Nat) (args : Array Value) (ds gs : List (DataW H)) (before : List MemPlace)
    (hval : ∀ (j : Nat) t v, Try.f5.params[j]? = some t → args[j]? = some v → Value.okWide Try.prog W .any base t v)
    (hW : DataW.Whole enc Try.prog Try.f5.params.toList Rows.fnMovedSpec.vars false W args.toList ds gs before) :
    Calls Try.prog 5 args W fun e W' => ∃ v, e = .returned v ∧ Rows.fnMovedSpec.post enc Try.prog Try.f5 false true false false W args v W' := by
  have hW' := hW
  obtain ⟨p, q, hA0, hV, rfl, hfz, hnd⟩ := hW
  have hA : DataW.TrodAll enc Try.prog W 0 (fun _ => true) true Try.f5.params.toList args.toList ds p := hA0
  rw [Try.params5] at hA hval
  obtain ⟨v0, vs0, d0, ds0, p0, q0, hargs, rfl, rfl, h0, r0⟩ := trodAll_cons hA
  obtain ⟨rfl, rfl, rfl⟩ := trodAll_nil r0
  obtain rfl : args = #[v0] := by cases args; simp_all
  obtain ⟨rfl, rfl⟩ := trodVars_none hV
  obtain ⟨ca, cl, cc, rfl⟩ := okWide_slice Try.underlying22 (hval 0 22 v0 rfl rfl)
  have k0 := h0
  have lt0 : ∀ x ∈ p0, x.block < W.heap.size := by obtain ⟨m, hm⟩ := k0; exact DataW.trod_lt m _ _ _ hm
  have ch : (cl ≤ 1048576 → CodeAt W W.heap.size ca cl) ∧ cl ≤ maxLen ∧ cl ≤ cc := by
    obtain ⟨fuel, hf⟩ := h0
    rcases open_ints Try.underlying22 Try.underlying5 (by kernel_rfl) hf with ⟨hcs, _⟩ | ⟨x, l, c, zs, hcs, _, hl, hm, hz, _, hcell, hwz⟩
    · simp [Value.cells] at hcs
      obtain ⟨rfl, rfl, rfl⟩ := hcs
      exact ⟨fun _ => ⟨by omega, fun h => absurd h (by omega)⟩, Nat.zero_le _, Nat.le_refl _⟩
    · simp [Value.cells] at hcs
      obtain ⟨rfl, rfl, rfl⟩ := hcs
      have hz2 : zs.length = cc := by simpa using hz
      exact ⟨fun hs => code_of hs (by omega) hcell hwz, by omega, hl⟩
  clear hA0
  simp only [List.append_nil] at hW'
  refine (walk ca cl cc W ch.2.1 ch.2.2 ch.1).mono fun e W' ⟨he, hg⟩ => ?_
  subst he
  exact ⟨_, rfl, _, _, _, [], _, [], hW', trodAll_mk1 (shut_bool Try.underlying4 _), (trodAll_cons_mk (Below.trod laidOut (by kernel_rfl) (of_decide_eq_true (by kernel_rfl)) k0 hg lt0) trodAll_mk0), rfl, hg.frame _, fun h => by cases h⟩
set_option maxRecDepth 100000 in
theorem lifted (os : Os) (started : os.Started) (H : Type) (enc : TypeId × Value → H) :
    ReturnsInHanded {} Try.checked os 5 .any (Rows.fnMovedSpec.pre6 enc Try.prog Try.f5 Rows.fnMovedRow.domain false) (Rows.fnMovedSpec.post enc Try.prog Try.f5 false true false false) := by
  refine returnsInHanded_of_change (C := Try.checked) own started (by kernel_rfl) Try.func5
    (ChangeSpec.witness6 (enc := enc) (C := Try.checked) false ⟨#[], #[.slice none 0 0], []⟩ 8 (by kernel_rfl) (by kernel_rfl) (by kernel_rfl) (by kernel_rfl)) ?_
  intro W base args ds gs before hval hW _ _
  exact contract H enc W base args ds gs before hval hW
theorem closedFacts : joinedFacts Try.pinned.checked.prog 5 Try.f5 Rows.fnMovedSpec Rows.fnMovedRow = true := by
  unfold joinedFacts
  rw [init_may, init_facts.2.1, init_facts.2.2]
  kernel_rfl
theorem said : Rows.FnMovedSaid :=
  OpenClaim.holds_of_wide 5 Try.f5 rfl rfl rfl rfl rfl rfl rfl ⟨rfl, rfl, rfl, rfl, rfl⟩ rfl rfl rfl rfl rfl (by kernel_rfl) Try.func5 closedFacts
    (of_decide_eq_true (by kernel_rfl)) (by unfold Func.isWrapper; first | (rw [if_pos (by decide +kernel)]; kernel_rfl) | (rw [if_neg (by decide +kernel)]; exact ⟨rfl, rfl⟩))
    (fun os started H enc _ => lifted os started H enc)
end Go.Proofs.Ytkcpemkahkkcmaa.fnMoved
