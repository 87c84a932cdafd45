/- The law FnPerm: a permutation composed with its inverse is the identity, at every code. No condition. -/
import Derived.Test.YtfmgjhaofbdlpaaInit
import Derived.Test.YtfmgjhaofbdlpaaPmK
import Derived.Test.YtfmgjhaofbdlpaaPmU
import Derived.Test.YtfmgjhaofbdlpaaBaseB14
import Derived.Test.YtfmgjhaofbdlpaaBaseB08
import Derived.Test.YtfmgjhaofbdlpaaPmB
import Derived.Test.YtfmgjhaofbdlpaaBaseB07
import Derived.Lib.SmallJoins
import Derived.WalkKit
import Derived.ProofKit
import Derived.OpenShut
import Derived.Deep.DeepHandedRow
import Derived.Lib.LaidTab
import Derived.LaidMore
import Derived.LaidHandle
import Derived.Lay
import Derived.Stop.LaidErr
namespace Go.Proofs.Ytfmgjhaofbdlpaa.fnPerm
open Go.ChangeShapes Go.WideShapes Go.ChangeAt Go.RowKit Go.Lib
attribute [local irreducible] World.cell?
set_option maxRecDepth 100000 in
set_option maxHeartbeats 6400000 in
theorem core (a0 : Option Addr) (len cap : Nat) (hs : len ≤ 1048576) (_ : len ≤ cap) (w : World) (hcode : CodeAt w w.heap.size a0 len) :
    Calls Try.prog 3 #[.slice a0 len cap] w fun e w' => e = .returned (.bool true) ∧ Below w.heap.size w w' := by
  have Hc := Lib.hid hcode
  have Hb := Lib.hid (Below.refl w.heap.size w)
  clear hcode
  go_enter Try.func3, Try.ntmps3
  go_wp2_with (go_at_call 12; go_in)
  refine (drawCmpP a0 len cap _ Hc.out).mono ?_
  rintro e w1 ⟨⟨vp, vq, p, q, rfl, hlp, hlq, hEp, hEq, hdu, hdv⟩, hb1⟩
  have hnp : p.length ≤ 1048576 := by omega
  have hnq : q.length ≤ 1048576 := by omega
  have Hp := Lib.hid hdu.upto
  have Hq := Lib.hid hdv.upto
  have Hb := Lib.hid (below_nx Hb.out hb1)
  have hz1 := hb1.size
  clear hdu hdv hb1
  have Hcm := Lib.hid (fun W P Q a b (h1 : intE.Sl W P a p) (h2 : intE.Sl W Q b q) => icmpP P Q a b p q W h1 h2 hEp hEq hnp hnq)
  have Hsm := Lib.hid (fun W P Q a b (h1 : intE.Sl W P a p) (h2 : intE.Sl W Q b q) => scmpP P Q a b p q W h1 h2 hEp hEq hnp hnq)
  have Hip := Lib.hid (fun W P a (h1 : intE.Sl W P a p) => iisP P a p W h1 hEp hnp)
  have Hsp := Lib.hid (fun W P a (h1 : intE.Sl W P a p) => sisP P a p W h1 hEp hnp)
  have Hiv := Lib.hid (fun W P a (h1 : intE.Sl W P a p) => iinvP P a p W h1 hEp hnp)
  have hcl := cmpP_len p q
  have hnr : (cmpP p q).length ≤ 1048576 := by omega
  generalize cmpP p q = r at *
  go_wp2_with fail
  refine (Hcm.out _ _ _ _ _ Hp.out.sl Hq.out.sl).mono ?_
  rintro e w2 ⟨v1, rfl, hd2, hb2⟩
  have Hr1 := Lib.hid hd2.upto
  have Hp := Lib.hid (Hp.out.below hb2)
  have Hq := Lib.hid (Hq.out.below hb2)
  have Hb := Lib.hid (below_nx Hb.out hb2)
  have hz2 := hb2.size
  clear hb2 hd2
  go_wp2_with fail
  refine (Hsm.out _ _ _ _ _ Hp.out.sl Hq.out.sl).mono ?_
  rintro e w3 ⟨v2, rfl, hd3, hb3⟩
  have Hr2 := Lib.hid hd3.upto
  have Hp := Lib.hid (Hp.out.below hb3)
  have Hq := Lib.hid (Hq.out.below hb3)
  have Hr1 := Lib.hid (Hr1.out.below hb3)
  have Hb := Lib.hid (below_nx Hb.out hb3)
  have hz3 := hb3.size
  clear hb3 hd3
  go_wp2_with fail
  refine (same_self _ _ _ _ r _ Hr1.out.sl Hr2.out.sl hnr).mono ?_
  rintro e w4 ⟨rfl, hb4⟩
  have Hp := Lib.hid (Hp.out.below hb4)
  have Hq := Lib.hid (Hq.out.below hb4)
  have Hr1 := Lib.hid (Hr1.out.below hb4)
  have Hr2 := Lib.hid (Hr2.out.below hb4)
  have Hb := Lib.hid (below_nx Hb.out hb4)
  have hz4 := hb4.size
  clear hb4
  go_wp2_with fail
  clear Hcm Hsm hcl hnr
  cases hP : permB p with
  | false =>
    have hi0 : invP p = [] := if_neg (by rw [hP]; decide)
    rw [hi0] at Hiv
    rw [hP] at Hip Hsp
    refine (Hip.out _ _ _ Hp.out.sl).mono ?_
    rintro e w5 ⟨rfl, hb5⟩
    have Hp := Lib.hid (Hp.out.below hb5)
    have Hb := Lib.hid (below_nx Hb.out hb5)
    have hz5 := hb5.size
    clear hb5
    go_wp2_with fail
    refine (Hsp.out _ _ _ Hp.out.sl).mono ?_
    rintro e w6 ⟨rfl, hb6⟩
    have Hp := Lib.hid (Hp.out.below hb6)
    have Hb := Lib.hid (below_nx Hb.out hb6)
    have hz6 := hb6.size
    clear hb6
    go_wp2_with fail
    refine (Hsp.out _ _ _ Hp.out.sl).mono ?_
    rintro e w7 ⟨rfl, hb7⟩
    have Hp := Lib.hid (Hp.out.below hb7)
    have Hb := Lib.hid (below_nx Hb.out hb7)
    have hz7 := hb7.size
    clear hb7
    go_wp2_with fail
    refine (Hiv.out _ _ _ Hp.out.sl).mono ?_
    rintro e w8 ⟨v3, rfl, hd8, hb8⟩
    have Hi1 := Lib.hid hd8.upto
    have Hp := Lib.hid (Hp.out.below hb8)
    have Hb := Lib.hid (below_nx Hb.out hb8)
    have hz8 := hb8.size
    clear hb8 hd8
    obtain ⟨ai, ci, rfl, -, -⟩ := Hi1.out.sl
    go_wp2_with fail
    go_ret
    exact ⟨rfl, Hb.out⟩
  | true =>
    obtain ⟨g1, g2, g3, g4, g5⟩ := inv_facts hP
    have hl4 := (permB_iff.1 hP).2
    have hEv := Ei_inv hnp
    have hEo := Ei_up p.length hl4.2
    have hnv : (invP p).length ≤ 1048576 := by omega
    have hno : (upI p.length).length = p.length := upI_len _
    have Hid1 := Lib.hid (fun W => iidP (p.length : Int) W (by omega) (by omega))
    rw [show idP (p.length : Int) = upI p.length from idP_nat hl4.1 hl4.2] at Hid1
    have Hc1 := Lib.hid (fun W P Q a b (h1 : intE.Sl W P a p) (h2 : intE.Sl W Q b (invP p)) => icmpP P Q a b p (invP p) W h1 h2 hEp hEv hnp hnv)
    have Hc2 := Lib.hid (fun W P Q a b (h1 : intE.Sl W P a (invP p)) (h2 : intE.Sl W Q b p) => icmpP P Q a b (invP p) p W h1 h2 hEv hEp hnv hnp)
    have Hc3 := Lib.hid (fun W P Q a b (h1 : intE.Sl W P a (upI p.length)) (h2 : intE.Sl W Q b p) => icmpP P Q a b (upI p.length) p W h1 h2 hEo hEp (by omega) hnp)
    rw [g3] at Hc1
    rw [g4] at Hc2
    rw [g5] at Hc3
    have hnu : (upI p.length).length ≤ 1048576 := by omega
    rw [hP] at Hip Hsp
    have Hlp := Lib.hid (show ∃ a c, vp = .slice a p.length c from by obtain ⟨a, c, e, -, -⟩ := Hp.out; exact ⟨a, c, e⟩)
    obtain ⟨pa, pc, rfl⟩ := Hlp.out
    generalize invP p = iv at *
    clear g1 g2 g3 g4 g5
    refine (Hip.out _ _ _ Hp.out.sl).mono ?_
    rintro e w5 ⟨rfl, hb5⟩
    have Hp := Lib.hid (Hp.out.below hb5)
    have Hb := Lib.hid (below_nx Hb.out hb5)
    have hz5 := hb5.size
    clear hb5
    go_wp2_with fail
    refine (Hsp.out _ _ _ Hp.out.sl).mono ?_
    rintro e w6 ⟨rfl, hb6⟩
    have Hp := Lib.hid (Hp.out.below hb6)
    have Hb := Lib.hid (below_nx Hb.out hb6)
    have hz6 := hb6.size
    clear hb6
    go_wp2_with fail
    refine (Hsp.out _ _ _ Hp.out.sl).mono ?_
    rintro e w7 ⟨rfl, hb7⟩
    have Hp := Lib.hid (Hp.out.below hb7)
    have Hb := Lib.hid (below_nx Hb.out hb7)
    have hz7 := hb7.size
    clear hb7
    go_wp2_with fail
    refine (Hid1.out _).mono ?_
    rintro e w8 ⟨v3, rfl, hd8, hb8⟩
    have Ho := Lib.hid hd8.upto
    have Hp := Lib.hid (Hp.out.below hb8)
    have Hb := Lib.hid (below_nx Hb.out hb8)
    have hz8 := hb8.size
    clear hb8 hd8
    go_wp2_with fail
    refine (Hiv.out _ _ _ Hp.out.sl).mono ?_
    rintro e w9 ⟨v4, rfl, hd9, hb9⟩
    have Hi1 := Lib.hid hd9.upto
    have Hp := Lib.hid (Hp.out.below hb9)
    have Ho := Lib.hid (Ho.out.below hb9)
    have Hb := Lib.hid (below_nx Hb.out hb9)
    have hz9 := hb9.size
    clear hb9 hd9
    go_wp2_with fail
    refine (Hc1.out _ _ _ _ _ Hp.out.sl Hi1.out.sl).mono ?_
    rintro e w10 ⟨v5, rfl, hd10, hb10⟩
    have Hk1 := Lib.hid hd10.upto
    have Hp := Lib.hid (Hp.out.below hb10)
    have Ho := Lib.hid (Ho.out.below hb10)
    have Hi1 := Lib.hid (Hi1.out.below hb10)
    have Hb := Lib.hid (below_nx Hb.out hb10)
    have hz10 := hb10.size
    clear hb10 hd10
    go_wp2_with fail
    refine (same_self _ _ _ _ _ _ Hk1.out.sl Ho.out.sl hnu).mono ?_
    rintro e w11 ⟨rfl, hb11⟩
    have Hp := Lib.hid (Hp.out.below hb11)
    have Ho := Lib.hid (Ho.out.below hb11)
    have Hi1 := Lib.hid (Hi1.out.below hb11)
    have Hk1 := Lib.hid (Hk1.out.below hb11)
    have Hb := Lib.hid (below_nx Hb.out hb11)
    have hz11 := hb11.size
    clear hb11
    go_wp2_with fail
    refine (Hiv.out _ _ _ Hp.out.sl).mono ?_
    rintro e w12 ⟨v6, rfl, hd12, hb12⟩
    have Hi2 := Lib.hid hd12.upto
    have Hp := Lib.hid (Hp.out.below hb12)
    have Ho := Lib.hid (Ho.out.below hb12)
    have Hb := Lib.hid (below_nx Hb.out hb12)
    have hz12 := hb12.size
    clear hb12 hd12
    go_wp2_with fail
    refine (Hc2.out _ _ _ _ _ Hi2.out.sl Hp.out.sl).mono ?_
    rintro e w13 ⟨v7, rfl, hd13, hb13⟩
    have Hk2 := Lib.hid hd13.upto
    have Hp := Lib.hid (Hp.out.below hb13)
    have Ho := Lib.hid (Ho.out.below hb13)
    have Hi2 := Lib.hid (Hi2.out.below hb13)
    have Hb := Lib.hid (below_nx Hb.out hb13)
    have hz13 := hb13.size
    clear hb13 hd13
    go_wp2_with fail
    refine (same_self _ _ _ _ _ _ Hk2.out.sl Ho.out.sl hnu).mono ?_
    rintro e w14 ⟨rfl, hb14⟩
    have Hp := Lib.hid (Hp.out.below hb14)
    have Ho := Lib.hid (Ho.out.below hb14)
    have Hi2 := Lib.hid (Hi2.out.below hb14)
    have Hk2 := Lib.hid (Hk2.out.below hb14)
    have Hb := Lib.hid (below_nx Hb.out hb14)
    have hz14 := hb14.size
    clear hb14
    go_wp2_with fail
    refine (Hc3.out _ _ _ _ _ Ho.out.sl Hp.out.sl).mono ?_
    rintro e w15 ⟨v8, rfl, hd15, hb15⟩
    have Hk3 := Lib.hid hd15.upto
    have Hp := Lib.hid (Hp.out.below hb15)
    have Ho := Lib.hid (Ho.out.below hb15)
    have Hb := Lib.hid (below_nx Hb.out hb15)
    have hz15 := hb15.size
    clear hb15 hd15
    go_wp2_with fail
    refine (same_self _ _ _ _ _ _ Hk3.out.sl Hp.out.sl hnp).mono ?_
    rintro e w16 ⟨rfl, hb16⟩
    have Hp := Lib.hid (Hp.out.below hb16)
    have Ho := Lib.hid (Ho.out.below hb16)
    have Hk3 := Lib.hid (Hk3.out.below hb16)
    have Hb := Lib.hid (below_nx Hb.out hb16)
    have hz16 := hb16.size
    clear hb16
    go_wp2_with fail
    go_ret
    exact ⟨rfl, Hb.out⟩
set_option maxRecDepth 100000 in
set_option maxHeartbeats 400000 in
theorem walk (a0 : Option Addr) (len cap : Nat) (w : World) (hm : len ≤ maxLen) (hlc : len ≤ cap) (hc : len ≤ 1048576 → CodeAt w w.heap.size a0 len) :
    Calls Try.prog 3 #[.slice a0 len cap] w fun e w' => e = .returned (.bool true) ∧ Below w.heap.size w w' := by
  by_cases hs : len ≤ 1048576
  · exact core a0 len cap hs hlc w (hc hs)
  · unfold maxLen at hm
    clear hc
    go_enter Try.func3, Try.ntmps3
    go_wp2_with (go_at_call 12; go_in)
    go_ret
    exact ⟨rfl, Below.refl _ _⟩

open Go.ChangeMaps (open_string shut_string)
theorem laidOut : laidOutB Try.prog = true := by kernel_rfl
theorem own : ownKnob Try.prog.godebug = none := by kernel_rfl
set_option maxRecDepth 100000 in
/-- What the walk gives, for every argument. -/
theorem contract (H : Type) (enc : TypeId × Value → H) (W : World) (base : Nat) (args : Array Value) (ds gs : List (DataW H)) (before : List MemPlace)
    (hval : ∀ (j : Nat) t v, Try.f3.params[j]? = some t → args[j]? = some v → Value.okWide Try.prog W .any base t v)
    (hW : DataW.Whole enc Try.prog Try.f3.params.toList Rows.fnPermSpec.vars false W args.toList ds gs before) :
    Calls Try.prog 3 args W fun e W' => ∃ v, e = .returned v ∧ Rows.fnPermSpec.post enc Try.prog Try.f3 false true false false W args v W' := by
  have hW' := hW
  obtain ⟨p, q, hA0, hV, rfl, hfz, hnd⟩ := hW
  have hA : DataW.TrodAll enc Try.prog W 0 (fun _ => true) true Try.f3.params.toList args.toList ds p := hA0
  rw [Try.params3] at hA hval
  obtain ⟨v0, vs0, d0, ds0, p0, q0, hargs, rfl, rfl, h0, r0⟩ := trodAll_cons hA
  obtain ⟨rfl, rfl, rfl⟩ := trodAll_nil r0
  obtain rfl : args = #[v0] := by cases args; simp_all
  obtain ⟨rfl, rfl⟩ := trodVars_none hV
  obtain ⟨ca, cl, cc, rfl⟩ := okWide_slice Try.underlying22 (hval 0 22 v0 rfl rfl)
  have k0 := h0
  have lt0 : ∀ x ∈ p0, x.block < W.heap.size := by obtain ⟨m, hm⟩ := k0; exact DataW.trod_lt m _ _ _ hm
  have ch : (cl ≤ 1048576 → CodeAt W W.heap.size ca cl) ∧ cl ≤ maxLen ∧ cl ≤ cc := by
    obtain ⟨fuel, hf⟩ := h0
    rcases open_ints Try.underlying22 Try.underlying5 (by kernel_rfl) hf with ⟨hcs, _⟩ | ⟨x, l, c, zs, hcs, _, hl, hm, hz, _, hcell, hwz⟩
    · simp [Value.cells] at hcs
      obtain ⟨rfl, rfl, rfl⟩ := hcs
      exact ⟨fun _ => ⟨by omega, fun h => absurd h (by omega)⟩, Nat.zero_le _, Nat.le_refl _⟩
    · simp [Value.cells] at hcs
      obtain ⟨rfl, rfl, rfl⟩ := hcs
      have hz2 : zs.length = cc := by simpa using hz
      exact ⟨fun hs => code_of hs (by omega) hcell hwz, by omega, hl⟩
  clear hA0
  simp only [List.append_nil] at hW'
  refine (walk ca cl cc W ch.2.1 ch.2.2 ch.1).mono fun e W' ⟨he, hg⟩ => ?_
  subst he
  exact ⟨_, rfl, _, _, _, [], _, [], hW', trodAll_mk1 (shut_bool Try.underlying4 _), (trodAll_cons_mk (Below.trod laidOut (by kernel_rfl) (of_decide_eq_true (by kernel_rfl)) k0 hg lt0) trodAll_mk0), rfl, hg.frame _, fun h => by cases h⟩

set_option maxRecDepth 100000 in
theorem lifted (os : Os) (started : os.Started) (H : Type) (enc : TypeId × Value → H) :
    ReturnsInHanded {} Try.checked os 3 .any (Rows.fnPermSpec.pre6 enc Try.prog Try.f3 Rows.fnPermRow.domain false) (Rows.fnPermSpec.post enc Try.prog Try.f3 false true false false) := by
  refine returnsInHanded_of_change (C := Try.checked) own started (by kernel_rfl) Try.func3
    (ChangeSpec.witness6 (enc := enc) (C := Try.checked) false ⟨#[], #[.slice none 0 0], []⟩ 8 (by kernel_rfl) (by kernel_rfl) (by kernel_rfl) (by kernel_rfl)) ?_
  intro W base args ds gs before hval hW _ _
  exact contract H enc W base args ds gs before hval hW
theorem closedFacts : joinedFacts Try.pinned.checked.prog 3 Try.f3 Rows.fnPermSpec Rows.fnPermRow = true := by
  unfold joinedFacts
  rw [init_may, init_facts.2.1, init_facts.2.2]
  kernel_rfl
theorem said : Rows.FnPermSaid :=
  OpenClaim.holds_of_wide 3 Try.f3 rfl rfl rfl rfl rfl rfl rfl ⟨rfl, rfl, rfl, rfl, rfl⟩ rfl rfl rfl rfl rfl (by kernel_rfl) Try.func3 closedFacts
    (of_decide_eq_true (by kernel_rfl)) (by unfold Func.isWrapper; first | (rw [if_pos (by decide +kernel)]; kernel_rfl) | (rw [if_neg (by decide +kernel)]; exact ⟨rfl, rfl⟩))
    (fun os started H enc _ => lifted os started H enc)
end Go.Proofs.Ytfmgjhaofbdlpaa.fnPerm
