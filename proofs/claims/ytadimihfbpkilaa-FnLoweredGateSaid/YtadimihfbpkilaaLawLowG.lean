/- The law FnLoweredGate: only the decomposition of CCX contains T gates, namely seven, at every code. No condition. -/
import Derived.Test.YtadimihfbpkilaaInit
import Derived.Test.YtadimihfbpkilaaDcK
import Derived.Test.YtadimihfbpkilaaDcM
import Derived.Test.YtadimihfbpkilaaBaseB21
import Derived.Test.YtadimihfbpkilaaBaseB23
import Derived.Lib.SmallJoins
import Derived.WalkKit
import Derived.ProofKit
import Derived.OpenShut
import Derived.Deep.DeepHandedRow
import Derived.Lib.LaidTab
import Derived.LaidMore
import Derived.LaidHandle
import Derived.Lay
import Derived.Stop.LaidErr
namespace Go.Proofs.Ytadimihfbpkilaa.fnLoweredGate
open Go.ChangeShapes Go.WideShapes Go.ChangeAt Go.RowKit Go.Lib
attribute [local irreducible] World.cell?
set_option maxRecDepth 100000 in
set_option maxHeartbeats 12800000 in
theorem core (a0 : Option Addr) (len cap : Nat) (hs : len ≤ 1048576) (_ : len ≤ cap) (w : World) (hcode : CodeAt w w.heap.size a0 len) :
    Calls Try.prog 4 #[.slice a0 len cap] w fun e w' => e = .returned (.bool true) ∧ Below w.heap.size w w' := by
  have Hc := Lib.hid hcode
  have Hb := Lib.hid (Below.refl w.heap.size w)
  clear hcode
  go_enter Try.func4, Try.ntmps4
  go_wp2_with (go_at_call 8; go_in)
  refine (drawDG a0 len cap _ Hc.out).mono ?_
  rintro e w1 ⟨⟨g, rfl, hgi⟩, hb1⟩
  have HA := Lib.hid (heap_alloc_new w1 (.cells #[.int .i64 g.k, .int .i64 g.a, .int .i64 g.b, .int .i64 g.c] 30))
  have Hb := Lib.hid (below_nx Hb.out hb1)
  have hs1 := Hb.out.size
  have Hb := Lib.hid (Hb.out.alloc hs1 (.cells #[.int .i64 g.k, .int .i64 g.a, .int .i64 g.b, .int .i64 g.c] 30))
  obtain ⟨h12, h78, hno⟩ := law_gate g
  have hl15 := (dcG_len g).2
  have Hi := Lib.hid (fun W => idcG g W)
  have Hs := Lib.hid (fun W => sdcG g W)
  generalize dcG g = R at *
  have Htc := Lib.hid (fun W B v (h : gtE.Sl W B v R) => ltc B v R W h (by omega))
  have Hsm := Lib.hid (fun W B C v u (h1 : gtE.Sl W B v R) (h2 : gtE.Sl W C u R) => lsame B C v u R W h1 h2 (by omega))
  generalize cntT R = t at *
  have H12 := Lib.hid h12
  have H78 := Lib.hid h78
  have Hno := Lib.hid hno
  clear hb1 hgi hs1 hl15 h12 h78 hno
  obtain ⟨c0, c1, c2, c3⟩ := blk_cells HA.out
  have hxl := lt_of_block HA.out
  go_wp2_with fail
  refine (Hi.out _).mono ?_
  rintro e w2 ⟨v, rfl, hd, hb2⟩
  have Hr := Lib.hid hd
  obtain ⟨pr, qr, rfl, -, -⟩ := id hd
  have HA := Lib.hid (below_blk hb2 (lt_of_block HA.out) HA.out)
  have Hb := Lib.hid (below_nx Hb.out hb2)
  clear hb2 hd Hi
  clear c0 c1 c2 c3 hxl
  obtain ⟨c0, c1, c2, c3⟩ := blk_cells HA.out
  have hxl := lt_of_block HA.out
  go_wp2_with fail
  refine (Hs.out _).mono ?_
  rintro e w3 ⟨u, rfl, hu, hb3⟩
  have Hu := Lib.hid hu
  have Hr := Lib.hid (Hr.out.below hb3)
  obtain ⟨pu, qu, rfl, -, -⟩ := id hu
  have HA := Lib.hid (below_blk hb3 (lt_of_block HA.out) HA.out)
  have Hb := Lib.hid (below_nx Hb.out hb3)
  clear hb3 hu Hs
  clear c0 c1 c2 c3 hxl
  obtain ⟨c0, c1, c2, c3⟩ := blk_cells HA.out
  have hxl := lt_of_block HA.out
  go_wp2_with fail
  refine (Hsm.out _ _ _ _ _ Hr.out Hu.out).mono ?_
  rintro e w4 ⟨rfl, hb4⟩
  have Hr := Lib.hid (Hr.out.below hb4)
  have HA := Lib.hid (below_blk hb4 (lt_of_block HA.out) HA.out)
  have Hb := Lib.hid (below_nx Hb.out hb4)
  clear hb4 Hu Hsm
  clear c0 c1 c2 c3 hxl
  obtain ⟨c0, c1, c2, c3⟩ := blk_cells HA.out
  have hxl := lt_of_block HA.out
  go_wp2_with fail
  refine (Htc.out _ _ _ Hr.out).mono ?_
  rintro e w5 ⟨rfl, hb5⟩
  have HA := Lib.hid (below_blk hb5 (lt_of_block HA.out) HA.out)
  have Hb := Lib.hid (below_nx Hb.out hb5)
  clear hb5 Htc Hr
  clear c0 c1 c2 c3 hxl
  obtain ⟨c0, c1, c2, c3⟩ := blk_cells HA.out
  have hxl := lt_of_block HA.out
  by_cases k12 : g.k = 12
  · obtain ⟨rfl, hln⟩ := H12.out k12
    have hl2 : ((R.length : Int) == 15) = true := by rw [hln]; rfl
    rw [k12] at c0
    go_wp2_with fail
    go_ret
    exact ⟨rfl, Hb.out⟩
  by_cases k7 : g.k = 7
  · obtain rfl := H78.out (.inl k7)
    rw [k7] at c0
    go_wp2_with fail
    go_ret
    exact ⟨rfl, Hb.out⟩
  by_cases k8 : g.k = 8
  · obtain rfl := H78.out (.inr k8)
    rw [k8] at c0
    go_wp2_with fail
    go_ret
    exact ⟨rfl, Hb.out⟩
  obtain rfl := Hno.out k12 k7 k8
  have e12 : (g.k == 12) = false := by simpa using k12
  have e7 : (g.k == 7) = false := by simpa using k7
  have e8 : (g.k == 8) = false := by simpa using k8
  clear k12 k7 k8
  go_wp2_with fail
  go_ret
  exact ⟨rfl, Hb.out⟩
set_option maxRecDepth 100000 in
set_option maxHeartbeats 400000 in
theorem walk (a0 : Option Addr) (len cap : Nat) (w : World) (hm : len ≤ maxLen) (hlc : len ≤ cap) (hc : len ≤ 1048576 → CodeAt w w.heap.size a0 len) :
    Calls Try.prog 4 #[.slice a0 len cap] w fun e w' => e = .returned (.bool true) ∧ Below w.heap.size w w' := by
  by_cases hs : len ≤ 1048576
  · exact core a0 len cap hs hlc w (hc hs)
  · unfold maxLen at hm
    clear hc
    go_enter Try.func4, Try.ntmps4
    go_wp2_with (go_at_call 8; go_in)
    go_ret
    exact ⟨rfl, Below.refl _ _⟩

open Go.ChangeMaps (open_string shut_string)
theorem laidOut : laidOutB Try.prog = true := by kernel_rfl
theorem own : ownKnob Try.prog.godebug = none := by kernel_rfl
set_option maxRecDepth 100000 in
/-- What the walk gives, for every argument. -/
theorem contract (H : Type) (enc : TypeId × Value → H) (W : World) (base : Nat) (args : Array Value) (ds gs : List (DataW H)) (before : List MemPlace)
    (hval : ∀ (j : Nat) t v, Try.f4.params[j]? = some t → args[j]? = some v → Value.okWide Try.prog W .any base t v)
    (hW : DataW.Whole enc Try.prog Try.f4.params.toList Rows.fnLoweredGateSpec.vars false W args.toList ds gs before) :
    Calls Try.prog 4 args W fun e W' => ∃ v, e = .returned v ∧ Rows.fnLoweredGateSpec.post enc Try.prog Try.f4 false true false false W args v W' := by
  have hW' := hW
  obtain ⟨p, q, hA0, hV, rfl, hfz, hnd⟩ := hW
  have hA : DataW.TrodAll enc Try.prog W 0 (fun _ => true) true Try.f4.params.toList args.toList ds p := hA0
  rw [Try.params4] at hA hval
  obtain ⟨v0, vs0, d0, ds0, p0, q0, hargs, rfl, rfl, h0, r0⟩ := trodAll_cons hA
  obtain ⟨rfl, rfl, rfl⟩ := trodAll_nil r0
  obtain rfl : args = #[v0] := by cases args; simp_all
  obtain ⟨rfl, rfl⟩ := trodVars_none hV
  obtain ⟨ca, cl, cc, rfl⟩ := okWide_slice Try.underlying22 (hval 0 22 v0 rfl rfl)
  have k0 := h0
  have lt0 : ∀ x ∈ p0, x.block < W.heap.size := by obtain ⟨m, hm⟩ := k0; exact DataW.trod_lt m _ _ _ hm
  have ch : (cl ≤ 1048576 → CodeAt W W.heap.size ca cl) ∧ cl ≤ maxLen ∧ cl ≤ cc := by
    obtain ⟨fuel, hf⟩ := h0
    rcases open_ints Try.underlying22 Try.underlying5 (by kernel_rfl) hf with ⟨hcs, _⟩ | ⟨x, l, c, zs, hcs, _, hl, hm, hz, _, hcell, hwz⟩
    · simp [Value.cells] at hcs
      obtain ⟨rfl, rfl, rfl⟩ := hcs
      exact ⟨fun _ => ⟨by omega, fun h => absurd h (by omega)⟩, Nat.zero_le _, Nat.le_refl _⟩
    · simp [Value.cells] at hcs
      obtain ⟨rfl, rfl, rfl⟩ := hcs
      have hz2 : zs.length = cc := by simpa using hz
      exact ⟨fun hs => code_of hs (by omega) hcell hwz, by omega, hl⟩
  clear hA0
  simp only [List.append_nil] at hW'
  refine (walk ca cl cc W ch.2.1 ch.2.2 ch.1).mono fun e W' ⟨he, hg⟩ => ?_
  subst he
  exact ⟨_, rfl, _, _, _, [], _, [], hW', trodAll_mk1 (shut_bool Try.underlying4 _), (trodAll_cons_mk (Below.trod laidOut (by kernel_rfl) (of_decide_eq_true (by kernel_rfl)) k0 hg lt0) trodAll_mk0), rfl, hg.frame _, fun h => by cases h⟩

set_option maxRecDepth 100000 in
theorem lifted (os : Os) (started : os.Started) (H : Type) (enc : TypeId × Value → H) :
    ReturnsInHanded {} Try.checked os 4 .any (Rows.fnLoweredGateSpec.pre6 enc Try.prog Try.f4 Rows.fnLoweredGateRow.domain false) (Rows.fnLoweredGateSpec.post enc Try.prog Try.f4 false true false false) := by
  refine returnsInHanded_of_change (C := Try.checked) own started (by kernel_rfl) Try.func4
    (ChangeSpec.witness6 (enc := enc) (C := Try.checked) false ⟨#[], #[.slice none 0 0], []⟩ 8 (by kernel_rfl) (by kernel_rfl) (by kernel_rfl) (by kernel_rfl)) ?_
  intro W base args ds gs before hval hW _ _
  exact contract H enc W base args ds gs before hval hW
theorem closedFacts : joinedFacts Try.pinned.checked.prog 4 Try.f4 Rows.fnLoweredGateSpec Rows.fnLoweredGateRow = true := by
  unfold joinedFacts
  rw [init_may, init_facts.2.1, init_facts.2.2]
  kernel_rfl
theorem said : Rows.FnLoweredGateSaid :=
  OpenClaim.holds_of_wide 4 Try.f4 rfl rfl rfl rfl rfl rfl rfl ⟨rfl, rfl, rfl, rfl, rfl⟩ rfl rfl rfl rfl rfl (by kernel_rfl) Try.func4 closedFacts
    (of_decide_eq_true (by kernel_rfl)) (by unfold Func.isWrapper; first | (rw [if_pos (by decide +kernel)]; kernel_rfl) | (rw [if_neg (by decide +kernel)]; exact ⟨rfl, rfl⟩))
    (fun os started H enc _ => lifted os started H enc)
end Go.Proofs.Ytadimihfbpkilaa.fnLoweredGate
