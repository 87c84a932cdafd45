/- The law FnMulMat: applying a product applies both factors in order, at every code. No condition. -/
import Derived.Test.YtkcpemkahkkcmaaInit
import Derived.Test.YtkcpemkahkkcmaaBaseB23
import Derived.Test.YtkcpemkahkkcmaaBaseB04
import Derived.Test.YtkcpemkahkkcmaaBaseB11
import Derived.Test.YtkcpemkahkkcmaaBaseB15
import Derived.Test.YtkcpemkahkkcmaaBaseB17
import Derived.Lib.SmallJoins
import Derived.WalkKit
import Derived.ProofKit
import Derived.OpenShut
import Derived.Deep.DeepHandedRow
import Derived.Lib.LaidTab
import Derived.LaidMore
import Derived.LaidHandle
import Derived.Lay
import Derived.Stop.LaidErr
namespace Go.Proofs.Ytkcpemkahkkcmaa.fnMulMat
open Go.ChangeShapes Go.WideShapes Go.ChangeAt Go.RowKit Go.Lib
attribute [local irreducible] World.cell?
set_option maxRecDepth 100000 in
set_option maxHeartbeats 6400000 in
theorem core (a0 : Option Addr) (len cap : Nat) (hs : len ≤ 1048576) (hlc : len ≤ cap) (w : World) (hcode : CodeAt w w.heap.size a0 len) :
    Calls Try.prog 3 #[.slice a0 len cap] w fun e w' => e = .returned (.bool true) ∧ Below w.heap.size w w' := by
  have Hc := Lib.hid hcode
  clear hcode
  go_enter Try.func3, Try.ntmps3
  go_wp2_with (go_at_call 15; go_in)
  refine (drawMulMt a0 len cap _ Hc.out).mono ?_
  rintro e w1 ⟨⟨u, v, M, N, rfl, hM, hN, hdu, hdv⟩, hb1⟩
  have hnM : M.length ≤ 1048576 := by have := hM.1; omega
  have hnN : N.length ≤ 1048576 := by have := hN.1; omega
  have hmM := hM.amps
  have hmN := hN.amps
  have hEM : EbM M := fun r hr => (hM.2 r hr).1
  have hEN : EbM N := fun r hr => (hN.2 r hr).1
  have hEP := mulM_eb M N
  obtain ⟨p16, p256⟩ := mulM_amps M N
  have hno : mulMB M N = false → mulM M N = [] := fun h => if_neg (by rw [h]; decide)
  have hmt := fun h => mulM_mt (A := M) (B := N) h
  have hboth := fun h j hj => both_law (A := M) (B := N) h (j := j) hj
  have Hsm := Lib.hid (fun P Q R S v u W (h1 : DSM W P Q v M) (h2 : DSM W R S u N) => smulM P Q R S v u M N W h1 h2 hnM hnN hmM hmN)
  have Him := Lib.hid (fun P Q R S v u W (h1 : DSM W P Q v M) (h2 : DSM W R S u N) => imulM P Q R S v u M N W h1 h2 hEM hEN hnM hnN hmM hmN)
  generalize mulM M N = P at *
  generalize mulMB M N = ok at *
  have Heq := Lib.hid (fun A B C D v u W (h1 : DSM W A B v P) (h2 : DSM W C D u P) => sequalMt A B C D v u P P W h1 h2 (by omega) (by omega) (by omega) (by omega))
  rw [decide_eq_true (rfl : P = P)] at Heq
  have Hiv := Lib.hid (fun A B v W (h : DSM W A B v P) => ivalidMt A B v P W h hEP (by omega) (by omega))
  have Hap := Lib.hid (fun A B C v u b W (h1 : DSM W A B v P) (h2 : DSl W C u b) hb hl => iapply A B C v u P b W h1 h2 hEP hb (by omega) hl (by omega))
  have Ham := Lib.hid (fun A B C v u b W (h1 : DSM W A B v M) (h2 : DSl W C u b) hb hl => iapply A B C v u M b W h1 h2 hEM hb hnM hl hmM)
  have Han := Lib.hid (fun A B C v u b W (h1 : DSM W A B v N) (h2 : DSl W C u b) hb hl => iapply A B C v u N b W h1 h2 hEN hb hnN hl hmN)
  have Hno := Lib.hid hno
  have Hmt := Lib.hid hmt
  have Hboth := Lib.hid hboth
  have Hu := Lib.hid hdu
  have Hv := Lib.hid hdv
  have Hb := Lib.hid hb1
  clear hM hN hdu hdv hb1 hEM hEN hEP hno hmt hboth
  go_wp2_with fail
  refine (Him.out _ _ _ _ _ _ _ Hu.out Hv.out).mono ?_
  rintro e w2 ⟨⟨vp, rfl, hd2⟩, hb2⟩
  have Hp := Lib.hid hd2
  have Hu := Lib.hid (Hu.out.below hb2)
  have Hv := Lib.hid (Hv.out.below hb2)
  have Hb := Lib.hid (below_nx Hb.out hb2)
  clear hb2 hd2
  go_wp2_with fail
  refine (Hsm.out _ _ _ _ _ _ _ Hu.out Hv.out).mono ?_
  rintro e w3 ⟨⟨vs, rfl, hd3⟩, hb3⟩
  have Hs := Lib.hid hd3
  have Hu := Lib.hid (Hu.out.below hb3)
  have Hv := Lib.hid (Hv.out.below hb3)
  have Hp := Lib.hid (Hp.out.below hb3)
  have Hb := Lib.hid (below_nx Hb.out hb3)
  clear hb3 hd3
  cases ok with
  | false =>
    go_wp2_with fail
    refine (Heq.out _ _ _ _ _ _ _ Hp.out Hs.out).mono ?_
    rintro e w4 ⟨rfl, hb4⟩
    have Hu := Lib.hid (Hu.out.below hb4)
    have Hv := Lib.hid (Hv.out.below hb4)
    have Hp := Lib.hid (Hp.out.below hb4)
    have Hs := Lib.hid (Hs.out.below hb4)
    have Hb := Lib.hid (below_nx Hb.out hb4)
    clear hb4
    obtain rfl : P = [] := Hno.out trivial
    obtain ⟨pa, pcap, rfl, -, -⟩ := Hp.out
    have HbF := Hb
    go_wp2_with fail
    go_ret
    exact ⟨rfl, HbF.out⟩
  | true =>
    go_wp2_with fail
    refine (Heq.out _ _ _ _ _ _ _ Hp.out Hs.out).mono ?_
    rintro e w5 ⟨rfl, hb5⟩
    have Hu := Lib.hid (Hu.out.below hb5)
    have Hv := Lib.hid (Hv.out.below hb5)
    have Hp := Lib.hid (Hp.out.below hb5)
    have Hs := Lib.hid (Hs.out.below hb5)
    have Hb := Lib.hid (below_nx Hb.out hb5)
    clear hb5
    have hmt : mtB P = true := Hmt.out trivial
    have hP0 := (mtB_iff.1 hmt).1
    obtain ⟨pa, pcap, rfl, hpc, hpr⟩ := Hp.out
    obtain ⟨g, rfl, hg1, hg2, hrow⟩ := hpr hP0
    have Hrow := Lib.hid hrow
    have hz : ((P.length : Int) == 0) = false := by rw [beq_eq_false_iff_ne]; omega
    have hz0 : (P.length : Int) ≠ 0 := by omega
    clear hpr hrow
    have HbA := Hb
    go_wp2_with fail
    refine (at0_any a0 len cap 3 (by omega) _ hlc hs ((Hc.out.below HbA.out).mono HbA.out.size)).mono ?_
    rintro e wA ⟨⟨p, rfl, p0, p1⟩, rfl⟩
    obtain ⟨p, rfl⟩ : ∃ n : Nat, p = n := ⟨p.toNat, by omega⟩
    have ht : (p : Int).tmod (P.length : Int) = ((p % P.length : Nat) : Int) := by rw [Int.tmod_eq_emod_of_nonneg (by omega)]; simp
    have hj : p % P.length < P.length := Nat.mod_lt _ hP0
    obtain ⟨r0, hr0⟩ : ∃ r, P[0]? = some r := ⟨P[0], List.getElem?_eq_getElem hP0⟩
    have hrl := (mtB_row hmt hr0).1
    obtain ⟨ra, rc, hcell, -⟩ := Hrow.out.cell hr0
    rw [hrl] at hcell
    have hgl := Hrow.out.lt
    obtain ⟨b1, b2, b3, b4⟩ := Hboth.out trivial (p % P.length) hj
    have Hbas := Lib.hid (fun W => sbasis (qc P.length) ((p % P.length : Nat) : Int) W)
    have hbe : Eb (basisL (qc P.length) ((p % P.length : Nat) : Int)) := Ok.eb (stB_iff.1 (basis_st (mtB_qc hmt) hj).1).1
    have hbl : (basisL (qc P.length) ((p % P.length : Nat) : Int)).length ≤ 1048576 := by rw [(basis_st (mtB_qc hmt) hj).2]; omega
    have Hq := Lib.hid (fun W => squbits ra P.length rc W)
    have Hvl := Lib.hid (Hiv.out)
    rw [hmt] at Hvl
    have hqr := qc_range P.length
    generalize basisL (qc P.length) ((p % P.length : Nat) : Int) = bs at *
    generalize qc P.length = q at *
    generalize p % P.length = j at *
    have hxe : Eb (appL N bs) := appL_eb N bs
    have hye : Eb (appL M (appL N bs)) := appL_eb M _
    have hze : Eb (appL P bs) := appL_eb P bs
    have hxl : (appL N bs).length ≤ 1048576 := by rw [appL_len b1]; exact hnN
    have hyl : (appL M (appL N bs)).length ≤ 1048576 := by rw [appL_len b2]; exact hnM
    have H1 := Lib.hid (fun A B C v u W (h1 : DSM W A B v N) (h2 : DSl W C u bs) => Han.out A B C v u bs W h1 h2 hbe hbl)
    have H2 := Lib.hid (fun A B C v u W (h1 : DSM W A B v M) (h2 : DSl W C u (appL N bs)) => Ham.out A B C v u (appL N bs) W h1 h2 hxe hxl)
    have H3 := Lib.hid (fun A B C v u W (h1 : DSM W A B v P) (h2 : DSl W C u bs) => Hap.out A B C v u bs W h1 h2 hbe hbl)
    rw [b1] at H1
    rw [b2] at H2
    rw [b3, ← b4] at H3
    have H4 := Lib.hid (fun A B v u W (h1 : DSl W A v (appL M (appL N bs))) (h2 : DSl W B u (appL M (appL N bs))) => sequalSt A B v u _ _ W h1 h2 hyl hyl)
    simp only [decide_true] at H4
    generalize appL M (appL N bs) = y at *
    generalize appL N bs = x at *
    clear b1 b2 b3 b4 hr0 hrl hbe hbl hxe hye hze hxl hyl hmt
    go_wp2_with fail
    refine (Hq.out _).mono ?_
    rintro e wB ⟨rfl, rfl⟩
    go_wp2_with fail
    refine (Hbas.out _).mono ?_
    rintro e w6 ⟨vb, rfl, hd6, hb6⟩
    have Hbs := Lib.hid hd6
    have Hu := Lib.hid (Hu.out.below hb6)
    have Hv := Lib.hid (Hv.out.below hb6)
    have Hp := Lib.hid (Hp.out.below hb6)
    have Hb := Lib.hid (below_nx Hb.out hb6)
    clear hb6 hd6
    go_wp2_with fail
    refine (H1.out _ _ _ _ _ _ Hv.out Hbs.out).mono ?_
    rintro e w7 ⟨⟨vx, rfl, hd7⟩, hb7⟩
    have Hx := Lib.hid hd7
    have Hu := Lib.hid (Hu.out.below hb7)
    have Hv := Lib.hid (Hv.out.below hb7)
    have Hp := Lib.hid (Hp.out.below hb7)
    have Hbs := Lib.hid (Hbs.out.below hb7)
    have Hb := Lib.hid (below_nx Hb.out hb7)
    clear hb7 hd7
    go_wp2_with fail
    refine (H2.out _ _ _ _ _ _ Hu.out Hx.out).mono ?_
    rintro e w8 ⟨⟨vy, rfl, hd8⟩, hb8⟩
    have Hy := Lib.hid hd8
    have Hu := Lib.hid (Hu.out.below hb8)
    have Hv := Lib.hid (Hv.out.below hb8)
    have Hp := Lib.hid (Hp.out.below hb8)
    have Hbs := Lib.hid (Hbs.out.below hb8)
    have Hx := Lib.hid (Hx.out.below hb8)
    have Hb := Lib.hid (below_nx Hb.out hb8)
    clear hb8 hd8
    go_wp2_with fail
    refine (H3.out _ _ _ _ _ _ Hp.out Hbs.out).mono ?_
    rintro e w9 ⟨⟨vz, rfl, hd9⟩, hb9⟩
    have Hz := Lib.hid hd9
    have Hu := Lib.hid (Hu.out.below hb9)
    have Hv := Lib.hid (Hv.out.below hb9)
    have Hp := Lib.hid (Hp.out.below hb9)
    have Hbs := Lib.hid (Hbs.out.below hb9)
    have Hx := Lib.hid (Hx.out.below hb9)
    have Hy := Lib.hid (Hy.out.below hb9)
    have Hb := Lib.hid (below_nx Hb.out hb9)
    clear hb9 hd9
    go_wp2_with fail
    refine (H4.out _ _ _ _ _ Hy.out Hz.out).mono ?_
    rintro e w10 ⟨rfl, hb10⟩
    have Hu := Lib.hid (Hu.out.below hb10)
    have Hv := Lib.hid (Hv.out.below hb10)
    have Hp := Lib.hid (Hp.out.below hb10)
    have Hbs := Lib.hid (Hbs.out.below hb10)
    have Hx := Lib.hid (Hx.out.below hb10)
    have Hy := Lib.hid (Hy.out.below hb10)
    have Hz := Lib.hid (Hz.out.below hb10)
    have Hb := Lib.hid (below_nx Hb.out hb10)
    clear hb10
    go_wp2_with fail
    refine (Hvl.out _ _ _ _ Hp.out).mono ?_
    rintro e w11 ⟨rfl, hb11⟩
    have Hu := Lib.hid (Hu.out.below hb11)
    have Hv := Lib.hid (Hv.out.below hb11)
    have Hp := Lib.hid (Hp.out.below hb11)
    have Hbs := Lib.hid (Hbs.out.below hb11)
    have Hx := Lib.hid (Hx.out.below hb11)
    have Hy := Lib.hid (Hy.out.below hb11)
    have Hz := Lib.hid (Hz.out.below hb11)
    have Hb := Lib.hid (below_nx Hb.out hb11)
    clear hb11
    have HbG := Hb
    go_wp2_with fail
    go_ret
    exact ⟨rfl, HbG.out⟩
set_option maxRecDepth 100000 in
set_option maxHeartbeats 400000 in
theorem walk (a0 : Option Addr) (len cap : Nat) (w : World) (hm : len ≤ maxLen) (hlc : len ≤ cap) (hc : len ≤ 1048576 → CodeAt w w.heap.size a0 len) :
    Calls Try.prog 3 #[.slice a0 len cap] w fun e w' => e = .returned (.bool true) ∧ Below w.heap.size w w' := by
  by_cases hs : len ≤ 1048576
  · exact core a0 len cap hs hlc w (hc hs)
  · unfold maxLen at hm
    clear hc
    go_enter Try.func3, Try.ntmps3
    go_wp2_with (go_at_call 15; go_in)
    go_ret
    exact ⟨rfl, Below.refl _ _⟩
open Go.ChangeMaps (open_string shut_string)
theorem laidOut : laidOutB Try.prog = true := by kernel_rfl
theorem own : ownKnob Try.prog.godebug = none := by kernel_rfl
set_option maxRecDepth 100000 in
/-- What the walk gives, for every argument. -/
theorem contract (H : Type) (enc : TypeId × Value → H) (W : World) (base : Nat) (args : Array Value) (ds gs : List (DataW H)) (before : List MemPlace)
    (hval : ∀ (j : Nat) t v, Try.f3.params[j]? = some t → args[j]? = some v → Value.okWide Try.prog W .any base t v)
    (hW : DataW.Whole enc Try.prog Try.f3.params.toList Rows.fnMulMatSpec.vars false W args.toList ds gs before) :
    Calls Try.prog 3 args W fun e W' => ∃ v, e = .returned v ∧ Rows.fnMulMatSpec.post enc Try.prog Try.f3 false true false false W args v W' := by
  have hW' := hW
  obtain ⟨p, q, hA0, hV, rfl, hfz, hnd⟩ := hW
  have hA : DataW.TrodAll enc Try.prog W 0 (fun _ => true) true Try.f3.params.toList args.toList ds p := hA0
  rw [Try.params3] at hA hval
  obtain ⟨v0, vs0, d0, ds0, p0, q0, hargs, rfl, rfl, h0, r0⟩ := trodAll_cons hA
  obtain ⟨rfl, rfl, rfl⟩ := trodAll_nil r0
  obtain rfl : args = #[v0] := by cases args; simp_all
  obtain ⟨rfl, rfl⟩ := trodVars_none hV
  obtain ⟨ca, cl, cc, rfl⟩ := okWide_slice Try.underlying22 (hval 0 22 v0 rfl rfl)
  have k0 := h0
  have lt0 : ∀ x ∈ p0, x.block < W.heap.size := by obtain ⟨m, hm⟩ := k0; exact DataW.trod_lt m _ _ _ hm
  have ch : (cl ≤ 1048576 → CodeAt W W.heap.size ca cl) ∧ cl ≤ maxLen ∧ cl ≤ cc := by
    obtain ⟨fuel, hf⟩ := h0
    rcases open_ints Try.underlying22 Try.underlying5 (by kernel_rfl) hf with ⟨hcs, _⟩ | ⟨x, l, c, zs, hcs, _, hl, hm, hz, _, hcell, hwz⟩
    · simp [Value.cells] at hcs
      obtain ⟨rfl, rfl, rfl⟩ := hcs
      exact ⟨fun _ => ⟨by omega, fun h => absurd h (by omega)⟩, Nat.zero_le _, Nat.le_refl _⟩
    · simp [Value.cells] at hcs
      obtain ⟨rfl, rfl, rfl⟩ := hcs
      have hz2 : zs.length = cc := by simpa using hz
      exact ⟨fun hs => code_of hs (by omega) hcell hwz, by omega, hl⟩
  clear hA0
  simp only [List.append_nil] at hW'
  refine (walk ca cl cc W ch.2.1 ch.2.2 ch.1).mono fun e W' ⟨he, hg⟩ => ?_
  subst he
  exact ⟨_, rfl, _, _, _, [], _, [], hW', trodAll_mk1 (shut_bool Try.underlying4 _), (trodAll_cons_mk (Below.trod laidOut (by kernel_rfl) (of_decide_eq_true (by kernel_rfl)) k0 hg lt0) trodAll_mk0), rfl, hg.frame _, fun h => by cases h⟩
set_option maxRecDepth 100000 in
theorem lifted (os : Os) (started : os.Started) (H : Type) (enc : TypeId × Value → H) :
    ReturnsInHanded {} Try.checked os 3 .any (Rows.fnMulMatSpec.pre6 enc Try.prog Try.f3 Rows.fnMulMatRow.domain false) (Rows.fnMulMatSpec.post enc Try.prog Try.f3 false true false false) := by
  refine returnsInHanded_of_change (C := Try.checked) own started (by kernel_rfl) Try.func3
    (ChangeSpec.witness6 (enc := enc) (C := Try.checked) false ⟨#[], #[.slice none 0 0], []⟩ 8 (by kernel_rfl) (by kernel_rfl) (by kernel_rfl) (by kernel_rfl)) ?_
  intro W base args ds gs before hval hW _ _
  exact contract H enc W base args ds gs before hval hW
theorem closedFacts : joinedFacts Try.pinned.checked.prog 3 Try.f3 Rows.fnMulMatSpec Rows.fnMulMatRow = true := by
  unfold joinedFacts
  rw [init_may, init_facts.2.1, init_facts.2.2]
  kernel_rfl
theorem said : Rows.FnMulMatSaid :=
  OpenClaim.holds_of_wide 3 Try.f3 rfl rfl rfl rfl rfl rfl rfl ⟨rfl, rfl, rfl, rfl, rfl⟩ rfl rfl rfl rfl rfl (by kernel_rfl) Try.func3 closedFacts
    (of_decide_eq_true (by kernel_rfl)) (by unfold Func.isWrapper; first | (rw [if_pos (by decide +kernel)]; kernel_rfl) | (rw [if_neg (by decide +kernel)]; exact ⟨rfl, rfl⟩))
    (fun os started H enc _ => lifted os started H enc)
end Go.Proofs.Ytkcpemkahkkcmaa.fnMulMat
