/- The law FnLowered: decomposition preserves the operation exactly and yields basic gates only, at every code. No condition. -/
import Derived.Test.YtadimihfbpkilaaInit
import Derived.Test.YtadimihfbpkilaaDcK
import Derived.Test.YtadimihfbpkilaaDcM
import Derived.Test.YtadimihfbpkilaaBaseB21
import Derived.Test.YtadimihfbpkilaaBaseB23
import Derived.Test.YtadimihfbpkilaaApt
import Derived.Lib.SmallJoins
import Derived.WalkKit
import Derived.ProofKit
import Derived.OpenShut
import Derived.Deep.DeepHandedRow
import Derived.Lib.LaidTab
import Derived.LaidMore
import Derived.LaidHandle
import Derived.Lay
import Derived.Stop.LaidErr
namespace Go.Proofs.Ytadimihfbpkilaa.fnLowered
open Go.ChangeShapes Go.WideShapes Go.ChangeAt Go.RowKit Go.Lib
attribute [local irreducible] World.cell?
set_option maxRecDepth 100000 in
set_option maxHeartbeats 12800000 in
theorem core (a0 : Option Addr) (len cap : Nat) (hs : len ≤ 1048576) (_ : len ≤ cap) (w : World) (hcode : CodeAt w w.heap.size a0 len) :
    Calls Try.prog 3 #[.slice a0 len cap] w fun e w' => e = .returned (.bool true) ∧ Below w.heap.size w w' := by
  have Hc := Lib.hid hcode
  have Hb := Lib.hid (Below.refl w.heap.size w)
  clear hcode
  go_enter Try.func3, Try.ntmps3
  go_wp2_with (go_at_call 8; go_in)
  refine (drawDGs a0 len cap _ Hc.out).mono ?_
  rintro e w1 ⟨⟨n, v, L, rfl, hci, hd1⟩, hb1⟩
  have HL := Lib.hid hd1
  obtain ⟨pL, qL, rfl, -, -⟩ := id hd1
  have Hb := Lib.hid (below_nx Hb.out hb1)
  have hln : L.length ≤ 61 := hci.1.2.1
  have hl15 := dcL_len L
  have HU := Lib.hid (fun h => law_lowered hci h)
  have Hi := Lib.hid (fun W B v (h : gtE.Sl W B v L) => idcGs B v L W h (by omega))
  have Hs := Lib.hid (fun W B v (h : gtE.Sl W B v L) => sdcGs B v L W h (by omega))
  generalize dcL L = R at *
  have Hsm := Lib.hid (fun W B C v u (h1 : gtE.Sl W B v R) (h2 : gtE.Sl W C u R) => lsame B C v u R W h1 h2 (by omega))
  have Hap := Lib.hid (fun W B C v u (h1 : gtE.Sl W B v R) (h2 : gtE.Sl W C u L) => lapart B C 3 v u R L W h1 h2 (by omega) (by omega) (by omega) (by omega))
  rw [show ((3 : Nat) : Int) = 3 from rfl] at Hap
  have hRl : R.length ≤ 915 := by omega
  generalize aptV R L 3 = V at *
  generalize aptO R L 3 = O at *
  clear hb1 hd1 hci hl15
  go_wp2_with fail
  refine (Hi.out _ _ _ HL.out).mono ?_
  rintro e w2 ⟨v, rfl, hd, hb2⟩
  have HR := Lib.hid hd
  have HL := Lib.hid (HL.out.below hb2)
  obtain ⟨pR, qR, rfl, -, -⟩ := id hd
  have Hb := Lib.hid (below_nx Hb.out hb2)
  clear hb2 hd Hi
  go_wp2_with fail
  refine (Hs.out _ _ _ HL.out).mono ?_
  rintro e w3 ⟨u, rfl, hu, hb3⟩
  have Hu := Lib.hid hu
  have HR := Lib.hid (HR.out.below hb3)
  have HL := Lib.hid (HL.out.below hb3)
  obtain ⟨pu, qu, rfl, -, -⟩ := id hu
  have Hb := Lib.hid (below_nx Hb.out hb3)
  clear hb3 hu Hs
  go_wp2_with fail
  refine (Hsm.out _ _ _ _ _ HR.out Hu.out).mono ?_
  rintro e w4 ⟨rfl, hb4⟩
  have HR := Lib.hid (HR.out.below hb4)
  have HL := Lib.hid (HL.out.below hb4)
  have Hb := Lib.hid (below_nx Hb.out hb4)
  clear hb4 Hu Hsm
  obtain ⟨aL, cL, hvL, -, hrL⟩ := id HL.out
  obtain ⟨aR, cR, hvR, -, hrR⟩ := id HR.out
  injection hvL with hvL1 _ hvL3
  injection hvR with hvR1 _ hvR3
  subst hvL1 hvL3 hvR1 hvR3
  have HrL := Lib.hid hrL
  have HrR := Lib.hid hrR
  clear hrL hrR
  go_wp2_with fail
  go_loopg [5] L.length (fun m i wr => ∃ j : Nat, m = L.length - j ∧ j ≤ L.length ∧ i = .int .i64 j ∧ Hid (∀ x ∈ L.take j, gtB x 3 = true) ∧ Hid (Below w4.heap.size w4 wr))
  case atStart => exact ⟨0, rfl, Nat.zero_le _, rfl, Lib.hid (fun x hx => by simp at hx), Lib.hid (Below.refl _ _)⟩
  case round =>
    obtain ⟨j, rfl, hj, rfl, Hval, Hw⟩ := hrel
    by_cases hlt : j < L.length
    · obtain ⟨b, rfl, _, hrow⟩ := HrL.out (by omega)
      obtain ⟨x, hx⟩ : ∃ x, L[j]? = some x := ⟨L[j], List.getElem?_eq_getElem hlt⟩
      have r1 := hrow.below Hw.out hrow.lt
      obtain ⟨c0, c1, c2, c3⟩ := GRow.cells r1 hx
      have hgl := r1.lt
      have Hv := Lib.hid (fun W => svalidG x 3 W)
      have Hst := Lib.hid (show gtB x 3 = true → ∀ y ∈ L.take (j + 1), gtB y 3 = true from fun h y hy => by
        rw [List.take_add_one, hx] at hy
        rcases List.mem_append.1 hy with hy | hy
        · exact Hval.out y hy
        · obtain rfl : y = x := by simpa using hy
          exact h)
      generalize gtB x 3 = t at *
      clear r1 hrow hx
      go_wp2_with fail
      refine (Hv.out _).mono ?_
      rintro e w5 ⟨rfl, hb5⟩
      have Hw5 := Lib.hid (below_nx Hw.out hb5)
      clear hb5 c0 c1 c2 c3
      cases t with
      | false =>
        go_wp2_with fail
        go_ret
        exact ⟨rfl, below_nx Hb.out Hw5.out⟩
      | true =>
        go_wp2_with fail
        go_roundg (L.length - (j + 1))
        case measure => omega
        case rel => exact ⟨j + 1, rfl, by omega, by go_num, Lib.hid (Hst.out trivial), Hw5⟩
    · obtain rfl : j = L.length := by omega
      have hval := Hval.out
      rw [List.take_length] at hval
      obtain ⟨hbs, rfl, rfl⟩ := HU.out hval
      have Hbs := Lib.hid hbs
      clear hval hbs Hval HU
      obtain ⟨wo, rfl⟩ : ∃ x, x = wr := ⟨_, rfl⟩
      go_wp2_with fail
      go_loopg [6] R.length (fun m i wr => ∃ j : Nat, m = R.length - j ∧ j ≤ R.length ∧ i = .int .i64 j ∧ Hid (Below w4.heap.size w4 wr))
      case atStart => exact ⟨0, rfl, Nat.zero_le _, rfl, Hw⟩
      case round =>
        obtain ⟨j, rfl, hj, rfl, Hw⟩ := hrel
        by_cases hlt : j < R.length
        · obtain ⟨b, rfl, _, hrow⟩ := HrR.out (by omega)
          obtain ⟨x, hx⟩ : ∃ x, R[j]? = some x := ⟨R[j], List.getElem?_eq_getElem hlt⟩
          have r1 := hrow.below Hw.out hrow.lt
          obtain ⟨c0, c1, c2, c3⟩ := GRow.cells r1 hx
          have hgl := r1.lt
          have Hv := Lib.hid (fun W => iisB x W)
          rw [Hbs.out x (List.mem_of_getElem? hx)] at Hv
          clear r1 hrow hx
          go_wp2_with fail
          refine (Hv.out _).mono ?_
          rintro e w5 ⟨rfl, hb5⟩
          have Hw5 := Lib.hid (below_nx Hw.out hb5)
          clear hb5 c0 c1 c2 c3
          go_wp2_with fail
          go_roundg (R.length - (j + 1))
          case measure => omega
          case rel => exact ⟨j + 1, rfl, by omega, by go_num, Hw5⟩
        · obtain rfl : j = R.length := by omega
          have Ha := Lib.hid (Hap.out _ _ _ _ _ (HR.out.below Hw.out) (HL.out.below Hw.out))
          go_wp2_with fail
          refine (Ha.out).mono ?_
          rintro e w5 ⟨rfl, hb5⟩
          have Hw5 := Lib.hid (below_nx Hw.out hb5)
          clear hb5
          go_wp2_with fail
          go_ret
          exact ⟨rfl, below_nx Hb.out Hw5.out⟩
set_option maxRecDepth 100000 in
set_option maxHeartbeats 400000 in
theorem walk (a0 : Option Addr) (len cap : Nat) (w : World) (hm : len ≤ maxLen) (hlc : len ≤ cap) (hc : len ≤ 1048576 → CodeAt w w.heap.size a0 len) :
    Calls Try.prog 3 #[.slice a0 len cap] w fun e w' => e = .returned (.bool true) ∧ Below w.heap.size w w' := by
  by_cases hs : len ≤ 1048576
  · exact core a0 len cap hs hlc w (hc hs)
  · unfold maxLen at hm
    clear hc
    go_enter Try.func3, Try.ntmps3
    go_wp2_with (go_at_call 8; go_in)
    go_ret
    exact ⟨rfl, Below.refl _ _⟩

open Go.ChangeMaps (open_string shut_string)
theorem laidOut : laidOutB Try.prog = true := by kernel_rfl
theorem own : ownKnob Try.prog.godebug = none := by kernel_rfl
set_option maxRecDepth 100000 in
/-- What the walk gives, for every argument. -/
theorem contract (H : Type) (enc : TypeId × Value → H) (W : World) (base : Nat) (args : Array Value) (ds gs : List (DataW H)) (before : List MemPlace)
    (hval : ∀ (j : Nat) t v, Try.f3.params[j]? = some t → args[j]? = some v → Value.okWide Try.prog W .any base t v)
    (hW : DataW.Whole enc Try.prog Try.f3.params.toList Rows.fnLoweredSpec.vars false W args.toList ds gs before) :
    Calls Try.prog 3 args W fun e W' => ∃ v, e = .returned v ∧ Rows.fnLoweredSpec.post enc Try.prog Try.f3 false true false false W args v W' := by
  have hW' := hW
  obtain ⟨p, q, hA0, hV, rfl, hfz, hnd⟩ := hW
  have hA : DataW.TrodAll enc Try.prog W 0 (fun _ => true) true Try.f3.params.toList args.toList ds p := hA0
  rw [Try.params3] at hA hval
  obtain ⟨v0, vs0, d0, ds0, p0, q0, hargs, rfl, rfl, h0, r0⟩ := trodAll_cons hA
  obtain ⟨rfl, rfl, rfl⟩ := trodAll_nil r0
  obtain rfl : args = #[v0] := by cases args; simp_all
  obtain ⟨rfl, rfl⟩ := trodVars_none hV
  obtain ⟨ca, cl, cc, rfl⟩ := okWide_slice Try.underlying22 (hval 0 22 v0 rfl rfl)
  have k0 := h0
  have lt0 : ∀ x ∈ p0, x.block < W.heap.size := by obtain ⟨m, hm⟩ := k0; exact DataW.trod_lt m _ _ _ hm
  have ch : (cl ≤ 1048576 → CodeAt W W.heap.size ca cl) ∧ cl ≤ maxLen ∧ cl ≤ cc := by
    obtain ⟨fuel, hf⟩ := h0
    rcases open_ints Try.underlying22 Try.underlying5 (by kernel_rfl) hf with ⟨hcs, _⟩ | ⟨x, l, c, zs, hcs, _, hl, hm, hz, _, hcell, hwz⟩
    · simp [Value.cells] at hcs
      obtain ⟨rfl, rfl, rfl⟩ := hcs
      exact ⟨fun _ => ⟨by omega, fun h => absurd h (by omega)⟩, Nat.zero_le _, Nat.le_refl _⟩
    · simp [Value.cells] at hcs
      obtain ⟨rfl, rfl, rfl⟩ := hcs
      have hz2 : zs.length = cc := by simpa using hz
      exact ⟨fun hs => code_of hs (by omega) hcell hwz, by omega, hl⟩
  clear hA0
  simp only [List.append_nil] at hW'
  refine (walk ca cl cc W ch.2.1 ch.2.2 ch.1).mono fun e W' ⟨he, hg⟩ => ?_
  subst he
  exact ⟨_, rfl, _, _, _, [], _, [], hW', trodAll_mk1 (shut_bool Try.underlying4 _), (trodAll_cons_mk (Below.trod laidOut (by kernel_rfl) (of_decide_eq_true (by kernel_rfl)) k0 hg lt0) trodAll_mk0), rfl, hg.frame _, fun h => by cases h⟩

set_option maxRecDepth 100000 in
theorem lifted (os : Os) (started : os.Started) (H : Type) (enc : TypeId × Value → H) :
    ReturnsInHanded {} Try.checked os 3 .any (Rows.fnLoweredSpec.pre6 enc Try.prog Try.f3 Rows.fnLoweredRow.domain false) (Rows.fnLoweredSpec.post enc Try.prog Try.f3 false true false false) := by
  refine returnsInHanded_of_change (C := Try.checked) own started (by kernel_rfl) Try.func3
    (ChangeSpec.witness6 (enc := enc) (C := Try.checked) false ⟨#[], #[.slice none 0 0], []⟩ 8 (by kernel_rfl) (by kernel_rfl) (by kernel_rfl) (by kernel_rfl)) ?_
  intro W base args ds gs before hval hW _ _
  exact contract H enc W base args ds gs before hval hW
theorem closedFacts : joinedFacts Try.pinned.checked.prog 3 Try.f3 Rows.fnLoweredSpec Rows.fnLoweredRow = true := by
  unfold joinedFacts
  rw [init_may, init_facts.2.1, init_facts.2.2]
  kernel_rfl
theorem said : Rows.FnLoweredSaid :=
  OpenClaim.holds_of_wide 3 Try.f3 rfl rfl rfl rfl rfl rfl rfl ⟨rfl, rfl, rfl, rfl, rfl⟩ rfl rfl rfl rfl rfl (by kernel_rfl) Try.func3 closedFacts
    (of_decide_eq_true (by kernel_rfl)) (by unfold Func.isWrapper; first | (rw [if_pos (by decide +kernel)]; kernel_rfl) | (rw [if_neg (by decide +kernel)]; exact ⟨rfl, rfl⟩))
    (fun os started H enc _ => lifted os started H enc)
end Go.Proofs.Ytadimihfbpkilaa.fnLowered
