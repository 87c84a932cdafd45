/- The law FnTokens: the text of tokens is read as these tokens, at every code. No condition. -/
import Derived.Test.YtgicldokglpimaaInit
import Derived.Test.YtgicldokglpimaaTkK
import Derived.Test.YtgicldokglpimaaTkV
import Derived.Test.YtgicldokglpimaaTkN
import Derived.Test.YtgicldokglpimaaTkO
import Derived.Test.YtgicldokglpimaaTkF
import Derived.Lib.SmallJoins
import Derived.WalkKit
import Derived.ProofKit
import Derived.OpenShut
import Derived.Deep.DeepHandedRow
import Derived.Lib.LaidTab
import Derived.LaidMore
import Derived.LaidHandle
import Derived.Lay
import Derived.Stop.LaidErr
namespace Go.Proofs.Ytgicldokglpimaa.fnTokens
open Go.ChangeShapes Go.WideShapes Go.ChangeAt Go.RowKit Go.Lib
attribute [local irreducible] World.cell?
set_option maxRecDepth 100000 in
set_option maxHeartbeats 12800000 in
theorem core (a0 : Option Addr) (len cap : Nat) (hs : len ≤ 1048576) (_ : len ≤ cap) (w : World) (hcode : CodeAt w w.heap.size a0 len) :
    Calls Try.prog 3 #[.slice a0 len cap] w fun e w' => e = .returned (.bool true) ∧ Below w.heap.size w w' := by
  have Hc := Lib.hid hcode
  have Hb := Lib.hid (Below.refl w.heap.size w)
  clear hcode
  go_enter Try.func3, Try.ntmps3
  go_wp2_with (go_at_call 9; go_in)
  refine (drawTks a0 len cap _ Hc.out).mono ?_
  rintro e w1 ⟨⟨v0, L, rfl, hln, hld, hd1⟩, hb1⟩
  have HL := Lib.hid hd1
  obtain ⟨pL, qL, rfl, -, -⟩ := id hd1
  have Hb := Lib.hid (below_nx Hb.out hb1)
  have Hld := Lib.hid (show ∀ t ∈ L, t.s.length ≤ 1073741824 from fun t ht => by have := (hld t ht).2; omega)
  have Hm := Lib.hid (fun W B v (h : tkE.Sl W B v L) => ifmtTs B v L W h (by omega) Hld.out)
  have Hs := Lib.hid (fun W B v (h : tkE.Sl W B v L) => sfmtTs B v L W h (by omega) Hld.out)
  have hsz := tksL_len true L
  have HB := fun W => itok (sb (tksL true L)) W (by rw [sb_size]; omega)
  rw [bs_sb] at HB
  have HT := Lib.hid (show (∀ x ∈ L, tkT x ≠ []) → (tz (tksL true L) []).isSome = true ∧ (tz (tksL true L) []).getD [] = L from fun h => by
    rw [tz_tks L true [] h (by simp; omega)]
    exact ⟨rfl, rfl⟩)
  generalize sb (tksL true L) = E at *
  generalize (tz (tksL true L) []).isSome = t at *
  generalize (tz (tksL true L) []).getD [] = R at *
  have HB := Lib.hid HB
  have hby := bytes_yes E
  have hrl : L.length ≤ 1048576 := by omega
  clear hb1 hd1 hld hsz
  go_wp2_with fail
  refine (Hm.out _ _ _ HL.out).mono ?_
  rintro e w2 ⟨rfl, hb2⟩
  have HL := Lib.hid (HL.out.below hb2)
  have Hb := Lib.hid (below_nx Hb.out hb2)
  clear hb2
  go_wp2_with fail
  refine (Hs.out _ _ _ HL.out).mono ?_
  rintro e w3 ⟨rfl, hb3⟩
  have HL := Lib.hid (HL.out.below hb3)
  have Hb := Lib.hid (below_nx Hb.out hb3)
  clear hb3
  go_wp2_with fail
  refine (HB.out _).mono ?_
  rintro e w4 ⟨v, rfl, hd4, hb4⟩
  have HL := Lib.hid (HL.out.below hb4)
  have HR := Lib.hid hd4
  obtain ⟨p4, c4', rfl, -, -⟩ := id hd4
  have Hb := Lib.hid (below_nx Hb.out hb4)
  clear hb4 hd4
  go_wp2_with fail
  go_loopg [7] L.length (fun m i wr => ∃ j : Nat, m = L.length - j ∧ j ≤ L.length ∧ i = .int .i64 j ∧ Hid (∀ x ∈ L.take j, tkT x ≠ []) ∧ Hid (Below w4.heap.size w4 wr))
  case atStart => exact ⟨0, rfl, Nat.zero_le _, rfl, Lib.hid (fun x hx => absurd hx (by simp)), Lib.hid (Below.refl _ _)⟩
  case round =>
    obtain ⟨j, rfl, hj, rfl, Hall, Hbr⟩ := hrel
    have Hb := Lib.hid (below_nx Hb.out Hbr.out)
    have HL2 := Lib.hid (HL.out.below Hbr.out)
    have HR2 := Lib.hid (HR.out.below Hbr.out)
    by_cases hlt : j < L.length
    · obtain ⟨a', c', he', hcap', hr'⟩ := HL2.out
      obtain ⟨g, hg, _, hrow⟩ := hr' (by omega)
      subst hg
      injection he' with he1 he2 he3
      subst he1
      obtain ⟨x, hx⟩ : ∃ x, L[j]? = some x := ⟨L[j], List.getElem?_eq_getElem hlt⟩
      obtain ⟨c0, c1⟩ := TRow.cells hrow hx
      have hgl := hrow.lt
      have hF := fun W => ifmtT x.k (sb x.s) W (by rw [sb_size]; exact Hld.out x (List.mem_of_getElem? hx))
      simp only [bs_sb] at hF
      have hF := Lib.hid hF
      rw [show (⟨x.k, x.s⟩ : Tk) = x from rfl] at hF
      by_cases hn : tkT x = []
      · rw [hn] at hF
        have hF' : Hid (∀ W, Calls Try.prog 14 #[.agg #[.int .i64 x.k, .string (sb x.s)]] W fun e w' => e = .returned (.string ⟨#[]⟩) ∧ Below W.heap.size W w') := hF
        clear hF hrow hr' hcap' he2 he3
        go_wp2_with fail
        refine (hF'.out _).mono ?_
        rintro e wx ⟨rfl, hbx⟩
        have Hb := Lib.hid (below_nx Hb.out hbx)
        clear hbx
        go_wp2_with fail
        go_ret
        exact ⟨rfl, Hb.out⟩
      · have hne : sb (tkT x) ≠ ⟨#[]⟩ := fun e => hn (by have := congrArg bs e; rw [bs_sb] at this; exact this)
        obtain ⟨-, n2, n3, n4⟩ := bs_nil hne
        have Hall' := Lib.hid (show ∀ y ∈ L.take (j + 1), tkT y ≠ [] from fun y hy => by
          rw [List.take_add_one, hx] at hy
          rcases List.mem_append.1 hy with hy | hy
          · exact Hall.out y hy
          · have : y = x := by simpa using hy
            rw [this]; exact hn)
        clear hrow hr' hcap' he2 he3 hn hne
        generalize sb (tkT x) = E2 at *
        go_wp2_with fail
        refine (hF.out _).mono ?_
        rintro e wx ⟨rfl, hbx⟩
        have Hbx := Lib.hid (below_nx Hbr.out hbx)
        clear hbx
        go_wp2_with fail
        go_roundg (L.length - (j + 1))
        case measure => omega
        case rel => exact ⟨j + 1, rfl, by omega, by go_num, Hall', Hbx⟩
    · obtain rfl : j = L.length := by omega
      have hall := Hall.out
      rw [List.take_length] at hall
      obtain ⟨ht, hR⟩ := HT.out hall
      subst ht
      subst hR
      clear Hall hall
      go_wp2_with fail
      refine (lsameT _ _ _ _ _ _ HR2.out HL2.out hrl).mono ?_
      rintro e wx ⟨rfl, hbx⟩
      have Hb := Lib.hid (below_nx Hb.out hbx)
      clear hbx
      go_wp2_with fail
      first | go_ret | go_returns
      exact ⟨rfl, Hb.out⟩
set_option maxRecDepth 100000 in
set_option maxHeartbeats 400000 in
theorem walk (a0 : Option Addr) (len cap : Nat) (w : World) (hm : len ≤ maxLen) (hlc : len ≤ cap) (hc : len ≤ 1048576 → CodeAt w w.heap.size a0 len) :
    Calls Try.prog 3 #[.slice a0 len cap] w fun e w' => e = .returned (.bool true) ∧ Below w.heap.size w w' := by
  by_cases hs : len ≤ 1048576
  · exact core a0 len cap hs hlc w (hc hs)
  · unfold maxLen at hm
    clear hc
    go_enter Try.func3, Try.ntmps3
    go_wp2_with (go_at_call 9; go_in)
    go_ret
    exact ⟨rfl, Below.refl _ _⟩

open Go.ChangeMaps (open_string shut_string)
theorem laidOut : laidOutB Try.prog = true := by kernel_rfl
theorem own : ownKnob Try.prog.godebug = none := by kernel_rfl
set_option maxRecDepth 100000 in
/-- What the walk gives, for every argument. -/
theorem contract (H : Type) (enc : TypeId × Value → H) (W : World) (base : Nat) (args : Array Value) (ds gs : List (DataW H)) (before : List MemPlace)
    (hval : ∀ (j : Nat) t v, Try.f3.params[j]? = some t → args[j]? = some v → Value.okWide Try.prog W .any base t v)
    (hW : DataW.Whole enc Try.prog Try.f3.params.toList Rows.fnTokensSpec.vars false W args.toList ds gs before) :
    Calls Try.prog 3 args W fun e W' => ∃ v, e = .returned v ∧ Rows.fnTokensSpec.post enc Try.prog Try.f3 false true false false W args v W' := by
  have hW' := hW
  obtain ⟨p, q, hA0, hV, rfl, hfz, hnd⟩ := hW
  have hA : DataW.TrodAll enc Try.prog W 0 (fun _ => true) true Try.f3.params.toList args.toList ds p := hA0
  rw [Try.params3] at hA hval
  obtain ⟨v0, vs0, d0, ds0, p0, q0, hargs, rfl, rfl, h0, r0⟩ := trodAll_cons hA
  obtain ⟨rfl, rfl, rfl⟩ := trodAll_nil r0
  obtain rfl : args = #[v0] := by cases args; simp_all
  obtain ⟨rfl, rfl⟩ := trodVars_none hV
  obtain ⟨ca, cl, cc, rfl⟩ := okWide_slice Try.underlying22 (hval 0 22 v0 rfl rfl)
  have k0 := h0
  have lt0 : ∀ x ∈ p0, x.block < W.heap.size := by obtain ⟨m, hm⟩ := k0; exact DataW.trod_lt m _ _ _ hm
  have ch : (cl ≤ 1048576 → CodeAt W W.heap.size ca cl) ∧ cl ≤ maxLen ∧ cl ≤ cc := by
    obtain ⟨fuel, hf⟩ := h0
    rcases open_ints Try.underlying22 Try.underlying5 (by kernel_rfl) hf with ⟨hcs, _⟩ | ⟨x, l, c, zs, hcs, _, hl, hm, hz, _, hcell, hwz⟩
    · simp [Value.cells] at hcs
      obtain ⟨rfl, rfl, rfl⟩ := hcs
      exact ⟨fun _ => ⟨by omega, fun h => absurd h (by omega)⟩, Nat.zero_le _, Nat.le_refl _⟩
    · simp [Value.cells] at hcs
      obtain ⟨rfl, rfl, rfl⟩ := hcs
      have hz2 : zs.length = cc := by simpa using hz
      exact ⟨fun hs => code_of hs (by omega) hcell hwz, by omega, hl⟩
  clear hA0
  simp only [List.append_nil] at hW'
  refine (walk ca cl cc W ch.2.1 ch.2.2 ch.1).mono fun e W' ⟨he, hg⟩ => ?_
  subst he
  exact ⟨_, rfl, _, _, _, [], _, [], hW', trodAll_mk1 (shut_bool Try.underlying4 _), (trodAll_cons_mk (Below.trod laidOut (by kernel_rfl) (of_decide_eq_true (by kernel_rfl)) k0 hg lt0) trodAll_mk0), rfl, hg.frame _, fun h => by cases h⟩

set_option maxRecDepth 100000 in
theorem lifted (os : Os) (started : os.Started) (H : Type) (enc : TypeId × Value → H) :
    ReturnsInHanded {} Try.checked os 3 .any (Rows.fnTokensSpec.pre6 enc Try.prog Try.f3 Rows.fnTokensRow.domain false) (Rows.fnTokensSpec.post enc Try.prog Try.f3 false true false false) := by
  refine returnsInHanded_of_change (C := Try.checked) own started (by kernel_rfl) Try.func3
    (ChangeSpec.witness6 (enc := enc) (C := Try.checked) false ⟨#[], #[.slice none 0 0], []⟩ 8 (by kernel_rfl) (by kernel_rfl) (by kernel_rfl) (by kernel_rfl)) ?_
  intro W base args ds gs before hval hW _ _
  exact contract H enc W base args ds gs before hval hW
theorem closedFacts : joinedFacts Try.pinned.checked.prog 3 Try.f3 Rows.fnTokensSpec Rows.fnTokensRow = true := by
  unfold joinedFacts
  rw [init_may, init_facts.2.1, init_facts.2.2]
  kernel_rfl
theorem said : Rows.FnTokensSaid :=
  OpenClaim.holds_of_wide 3 Try.f3 rfl rfl rfl rfl rfl rfl rfl ⟨rfl, rfl, rfl, rfl, rfl⟩ rfl rfl rfl rfl rfl (by kernel_rfl) Try.func3 closedFacts
    (of_decide_eq_true (by kernel_rfl)) (by unfold Func.isWrapper; first | (rw [if_pos (by decide +kernel)]; kernel_rfl) | (rw [if_neg (by decide +kernel)]; exact ⟨rfl, rfl⟩))
    (fun os started H enc _ => lifted os started H enc)
end Go.Proofs.Ytgicldokglpimaa.fnTokens
