/- The law FnApart: the global phase between two matrices is antisymmetric, at every code. No condition. -/
import Derived.Test.YtggjbpgibdpflaaBaseB02
import Derived.Test.YtggjbpgibdpflaaBaseB13
import Derived.Test.YtggjbpgibdpflaaBaseB07
import Derived.Test.YtggjbpgibdpflaaBaseB19
import Derived.Test.YtggjbpgibdpflaaMtG
import Derived.Test.YtggjbpgibdpflaaBaseB17
import Derived.Test.YtggjbpgibdpflaaGpM
import Derived.Lib.SmallJoins
import Derived.WalkKit
import Derived.ProofKit
import Derived.OpenShut
import Derived.Deep.DeepHandedRow
import Derived.Lib.LaidTab
import Derived.LaidMore
import Derived.LaidHandle
import Derived.Lay
import Derived.Stop.LaidErr
namespace Go.Proofs.Ytggjbpgibdpflaa.fnApart
open Go.ChangeShapes Go.WideShapes Go.ChangeAt Go.RowKit Go.Lib
attribute [local irreducible] World.cell?
set_option maxRecDepth 100000 in
set_option maxHeartbeats 6400000 in
theorem core (a0 : Option Addr) (len cap : Nat) (hs : len ≤ 1048576) (_ : len ≤ cap) (w : World) (hcode : CodeAt w w.heap.size a0 len) :
    Calls Try.prog 5 #[.slice a0 len cap] w fun e w' => e = .returned (.bool true) ∧ Below w.heap.size w w' := by
  have Hc := Lib.hid hcode
  clear hcode
  go_enter Try.func5, Try.ntmps5
  go_wp2_with (go_at_call 19; go_in)
  refine (drawGp a0 len cap _ Hc.out).mono ?_
  rintro e w1 ⟨⟨u, v, M, N, rfl, hM, hN, hdu, hdv⟩, hb1⟩
  have hnM : M.length ≤ 1048576 := by have := hM.1; omega
  have hnN : N.length ≤ 1048576 := by have := hN.1; omega
  have hmM := hM.amps
  have hmN := hN.amps
  have hEM : EbM M := fun r hr => (hM.2 r hr).1
  have hEN : EbM N := fun r hr => (hN.2 r hr).1
  have Hi := Lib.hid (fun P Q R S v u W (h1 : DSM W P Q v M) (h2 : DSM W R S u N) => igp P Q R S v u M N W h1 h2 hEM hEN hnM hnN hmM hmN)
  have Hs := Lib.hid (fun P Q R S v u W (h1 : DSM W P Q v M) (h2 : DSM W R S u N) => sgp P Q R S v u M N W h1 h2 hnM hnN hmM hmN)
  have Hj := Lib.hid (fun P Q R S v u W (h1 : DSM W P Q v N) (h2 : DSM W R S u M) => igp P Q R S v u N M W h1 h2 hEN hEM hnN hnM hmN hmM)
  have He := Lib.hid (fun P Q R S v u W (h1 : DSM W P Q v M) (h2 : DSM W R S u N) => sequalMt P Q R S v u M N W h1 h2 hnM hnN hmM hmN)
  obtain ⟨hl1, hl2⟩ := gp_law M N
  rw [hl1] at Hj
  obtain ⟨i0, i7⟩ := gpV_rg M N
  obtain ⟨k0, k7⟩ := gpV_rg N M
  generalize gpV M N = i at *
  generalize gpV N M = k at *
  generalize gpB M N = t at *
  have Hu := Lib.hid hdu
  have Hv := Lib.hid hdv
  have Hb := Lib.hid hb1
  have Hlaw := Lib.hid hl2
  clear hM hN hdu hdv hb1 hl1 hl2 hEM hEN
  go_wp2_with fail
  refine (Hi.out _ _ _ _ _ _ _ Hu.out Hv.out).mono ?_
  rintro e w2 ⟨rfl, hb⟩
  have Hu := Lib.hid (Hu.out.below hb)
  have Hv := Lib.hid (Hv.out.below hb)
  have Hb := Lib.hid (below_nx Hb.out hb)
  clear hb
  go_wp2_with fail
  refine (Hs.out _ _ _ _ _ _ _ Hu.out Hv.out).mono ?_
  rintro e w3 ⟨rfl, hb⟩
  have Hu := Lib.hid (Hu.out.below hb)
  have Hv := Lib.hid (Hv.out.below hb)
  have Hb := Lib.hid (below_nx Hb.out hb)
  clear hb
  go_wp2_with fail
  refine (Hj.out _ _ _ _ _ _ _ Hv.out Hu.out).mono ?_
  rintro e w4 ⟨rfl, hb⟩
  have Hu := Lib.hid (Hu.out.below hb)
  have Hv := Lib.hid (Hv.out.below hb)
  have Hb := Lib.hid (below_nx Hb.out hb)
  clear hb
  have HbF := Hb
  cases t with
  | false =>
    go_wp2_with fail
    go_ret
    exact ⟨rfl, HbF.out⟩
  | true =>
    by_cases hz : (i + k) % 8 = 0
    · have hz1 : (i + k).tmod 8 = 0 := by rw [Int.tmod_eq_emod_of_nonneg (by omega)]; exact hz
      have hz2 : ((i + k).tmod 8 == 0) = true := by rw [hz1]; rfl
      go_wp2_with fail
      go_ret
      exact ⟨rfl, HbF.out⟩
    · have hz1 : (i + k).tmod 8 ≠ 0 := by rw [Int.tmod_eq_emod_of_nonneg (by omega)]; exact hz
      have hz2 : ((i + k).tmod 8 == 0) = false := by simpa using hz1
      have hMN : M = N := (Hlaw.out rfl).resolve_left hz
      have Hq := Lib.hid (He.out _ _ _ _ _ _ _ Hu.out Hv.out)
      rw [decide_eq_true hMN] at Hq
      go_wp2_with fail
      refine (Hq.out).mono ?_
      rintro e w5 ⟨rfl, hb5⟩
      have Hb6 := Lib.hid (below_nx HbF.out hb5)
      clear hb5
      go_wp2_with fail
      go_ret
      exact ⟨rfl, Hb6.out⟩
set_option maxRecDepth 100000 in
set_option maxHeartbeats 400000 in
theorem walk (a0 : Option Addr) (len cap : Nat) (w : World) (hm : len ≤ maxLen) (hlc : len ≤ cap) (hc : len ≤ 1048576 → CodeAt w w.heap.size a0 len) :
    Calls Try.prog 5 #[.slice a0 len cap] w fun e w' => e = .returned (.bool true) ∧ Below w.heap.size w w' := by
  by_cases hs : len ≤ 1048576
  · exact core a0 len cap hs hlc w (hc hs)
  · unfold maxLen at hm
    clear hc
    go_enter Try.func5, Try.ntmps5
    go_wp2_with (go_at_call 19; go_in)
    go_ret
    exact ⟨rfl, Below.refl _ _⟩

open Go.ChangeMaps (open_string shut_string)
theorem laidOut : laidOutB Try.prog = true := by kernel_rfl
theorem own : ownKnob Try.prog.godebug = none := by kernel_rfl
set_option maxRecDepth 100000 in
/-- What the walk gives, for every argument. -/
theorem contract (H : Type) (enc : TypeId × Value → H) (W : World) (base : Nat) (args : Array Value) (ds gs : List (DataW H)) (before : List MemPlace)
    (hval : ∀ (j : Nat) t v, Try.f5.params[j]? = some t → args[j]? = some v → Value.okWide Try.prog W .any base t v)
    (hW : DataW.Whole enc Try.prog Try.f5.params.toList Rows.fnApartSpec.vars false W args.toList ds gs before) :
    Calls Try.prog 5 args W fun e W' => ∃ v, e = .returned v ∧ Rows.fnApartSpec.post enc Try.prog Try.f5 false true false false W args v W' := by
  have hW' := hW
  obtain ⟨p, q, hA0, hV, rfl, hfz, hnd⟩ := hW
  have hA : DataW.TrodAll enc Try.prog W 0 (fun _ => true) true Try.f5.params.toList args.toList ds p := hA0
  rw [Try.params5] at hA hval
  obtain ⟨v0, vs0, d0, ds0, p0, q0, hargs, rfl, rfl, h0, r0⟩ := trodAll_cons hA
  obtain ⟨rfl, rfl, rfl⟩ := trodAll_nil r0
  obtain rfl : args = #[v0] := by cases args; simp_all
  obtain ⟨rfl, rfl⟩ := trodVars_none hV
  obtain ⟨ca, cl, cc, rfl⟩ := okWide_slice Try.underlying22 (hval 0 22 v0 rfl rfl)
  have k0 := h0
  have lt0 : ∀ x ∈ p0, x.block < W.heap.size := by obtain ⟨m, hm⟩ := k0; exact DataW.trod_lt m _ _ _ hm
  have ch : (cl ≤ 1048576 → CodeAt W W.heap.size ca cl) ∧ cl ≤ maxLen ∧ cl ≤ cc := by
    obtain ⟨fuel, hf⟩ := h0
    rcases open_ints Try.underlying22 Try.underlying5 (by kernel_rfl) hf with ⟨hcs, _⟩ | ⟨x, l, c, zs, hcs, _, hl, hm, hz, _, hcell, hwz⟩
    · simp [Value.cells] at hcs
      obtain ⟨rfl, rfl, rfl⟩ := hcs
      exact ⟨fun _ => ⟨by omega, fun h => absurd h (by omega)⟩, Nat.zero_le _, Nat.le_refl _⟩
    · simp [Value.cells] at hcs
      obtain ⟨rfl, rfl, rfl⟩ := hcs
      have hz2 : zs.length = cc := by simpa using hz
      exact ⟨fun hs => code_of hs (by omega) hcell hwz, by omega, hl⟩
  clear hA0
  simp only [List.append_nil] at hW'
  refine (walk ca cl cc W ch.2.1 ch.2.2 ch.1).mono fun e W' ⟨he, hg⟩ => ?_
  subst he
  exact ⟨_, rfl, _, _, _, [], _, [], hW', trodAll_mk1 (shut_bool Try.underlying4 _), (trodAll_cons_mk (Below.trod laidOut (by kernel_rfl) (of_decide_eq_true (by kernel_rfl)) k0 hg lt0) trodAll_mk0), rfl, hg.frame _, fun h => by cases h⟩

set_option maxRecDepth 100000 in
theorem lifted (os : Os) (started : os.Started) (H : Type) (enc : TypeId × Value → H) :
    ReturnsInHanded {} Try.checked os 5 .any (Rows.fnApartSpec.pre6 enc Try.prog Try.f5 Rows.fnApartRow.domain false) (Rows.fnApartSpec.post enc Try.prog Try.f5 false true false false) := by
  refine returnsInHanded_of_change (C := Try.checked) own started (by kernel_rfl) Try.func5
    (ChangeSpec.witness6 (enc := enc) (C := Try.checked) false ⟨#[], #[.slice none 0 0], []⟩ 8 (by kernel_rfl) (by kernel_rfl) (by kernel_rfl) (by kernel_rfl)) ?_
  intro W base args ds gs before hval hW _ _
  exact contract H enc W base args ds gs before hval hW
theorem closedFacts : joinedFacts Try.pinned.checked.prog 5 Try.f5 Rows.fnApartSpec Rows.fnApartRow = true := by
  unfold joinedFacts
  rw [init_may, init_facts.2.1, init_facts.2.2]
  kernel_rfl
theorem said : Rows.FnApartSaid :=
  OpenClaim.holds_of_wide 5 Try.f5 rfl rfl rfl rfl rfl rfl rfl ⟨rfl, rfl, rfl, rfl, rfl⟩ rfl rfl rfl rfl rfl (by kernel_rfl) Try.func5 closedFacts
    (of_decide_eq_true (by kernel_rfl)) (by unfold Func.isWrapper; first | (rw [if_pos (by decide +kernel)]; kernel_rfl) | (rw [if_neg (by decide +kernel)]; exact ⟨rfl, rfl⟩))
    (fun os started H enc _ => lifted os started H enc)
end Go.Proofs.Ytggjbpgibdpflaa.fnApart
