/- The law FnExactFormatToken: FormatToken answers as its model, at every token. No condition. -/
import Derived.Test.YtgicldokglpimaaInit
import Derived.Test.YtgicldokglpimaaTkK
import Derived.Test.YtgicldokglpimaaTkV
import Derived.Test.YtgicldokglpimaaTkN
import Derived.Test.YtgicldokglpimaaTkO
import Derived.Lib.SmallJoins
import Derived.WalkKit
import Derived.ProofKit
import Derived.OpenShut
import Derived.Deep.DeepHandedRow
import Derived.Lib.LaidTab
import Derived.LaidMore
import Derived.LaidHandle
import Derived.Lay
import Derived.Stop.LaidErr
namespace Go.Proofs.Ytgicldokglpimaa.fnExactFormatToken
open Go.ChangeShapes Go.WideShapes Go.ChangeAt Go.RowKit Go.Lib
attribute [local irreducible] World.cell?
set_option maxRecDepth 100000 in
set_option maxHeartbeats 6400000 in
theorem walk (k : Int) (s : ByteArray) (w : World) (_ : -9223372036854775808 ≤ k) (_ : k ≤ 9223372036854775807) (hs : s.size ≤ maxLen) :
    Calls Try.prog 7 #[.agg #[.int .i64 k, .string s]] w fun e w' => e = .returned (.bool true) ∧ Below w.heap.size w w' := by
  have HX := Lib.hid (heap_alloc_new w (.cells #[.int .i64 k, .string s] 36))
  obtain ⟨c0, c1⟩ := blk_cells2 HX.out
  have hxl := lt_of_block HX.out
  have Hb := Lib.hid (show Below w.heap.size w (w.alloc (.cells #[.int .i64 k, .string s] 36)) by go_grown)
  have Hsz := Lib.hid (fun W => szTk k s 1048576 W hs (by omega) (by omega))
  by_cases hn : s.size ≤ 1048576
  · rw [if_pos (show (s.size : Int) ≤ 1048576 by omega)] at Hsz
    have hn' : ¬ (1048576 - (s.size : Int) < 0) := by omega
    have Hto : Hid (∀ W, Calls Try.prog 25 #[.agg #[.int .i64 k, .string s]] W fun e w' => e = .returned (.agg #[.int .i64 k, .string s]) ∧ Below W.heap.size W w') := Lib.hid (fun W => by have h := toTk ⟨k, bs s⟩ W; rw [show (Tk.mk k (bs s)).s = bs s from rfl, sb_bs] at h; exact h)
    have Hsp := Lib.hid (fun W => sfmtT k s W (by omega))
    have Him := Lib.hid (fun W => ifmtT k s W (by omega))
    generalize sb (tkT ⟨k, bs s⟩) = E at *
    have hby := bytes_yes E
    go_enter Try.func7, Try.ntmps7
    go_wp2_with fail
    refine (Hsz.out _).mono ?_
    rintro e w1 ⟨rfl, hb1⟩
    have Hb := Lib.hid (below_nx Hb.out hb1)
    have hz1 := hb1.size
    have HX := Lib.hid (below_blk hb1 (lt_of_block HX.out) HX.out)
    clear c0 c1
    obtain ⟨c0, c1⟩ := blk_cells2 HX.out
    have hxl := lt_of_block HX.out
    clear hb1
    go_wp2_with fail
    refine (Hto.out _).mono ?_
    rintro e w2 ⟨rfl, hb2⟩
    have Hb := Lib.hid (below_nx Hb.out hb2)
    have hz2 := hb2.size
    have HX := Lib.hid (below_blk hb2 (lt_of_block HX.out) HX.out)
    clear c0 c1
    obtain ⟨c0, c1⟩ := blk_cells2 HX.out
    have hxl := lt_of_block HX.out
    clear hb2
    go_wp2_with fail
    refine (Hsp.out _).mono ?_
    rintro e w3 ⟨rfl, hb3⟩
    have Hb := Lib.hid (below_nx Hb.out hb3)
    have hz3 := hb3.size
    have HX := Lib.hid (below_blk hb3 (lt_of_block HX.out) HX.out)
    clear c0 c1
    obtain ⟨c0, c1⟩ := blk_cells2 HX.out
    have hxl := lt_of_block HX.out
    clear hb3
    go_wp2_with fail
    refine (Hto.out _).mono ?_
    rintro e w4 ⟨rfl, hb4⟩
    have Hb := Lib.hid (below_nx Hb.out hb4)
    have hz4 := hb4.size
    have HX := Lib.hid (below_blk hb4 (lt_of_block HX.out) HX.out)
    clear c0 c1
    obtain ⟨c0, c1⟩ := blk_cells2 HX.out
    have hxl := lt_of_block HX.out
    clear hb4
    go_wp2_with fail
    refine (Him.out _).mono ?_
    rintro e w5 ⟨rfl, hb5⟩
    have Hb := Lib.hid (below_nx Hb.out hb5)
    have hz5 := hb5.size
    have HX := Lib.hid (below_blk hb5 (lt_of_block HX.out) HX.out)
    clear c0 c1
    obtain ⟨c0, c1⟩ := blk_cells2 HX.out
    have hxl := lt_of_block HX.out
    clear hb5
    go_wp2_with fail
    go_ret
    exact ⟨rfl, Hb.out⟩
  · rw [if_neg (show ¬ (s.size : Int) ≤ 1048576 by omega)] at Hsz
    go_enter Try.func7, Try.ntmps7
    go_wp2_with fail
    refine (Hsz.out _).mono ?_
    rintro e w1 ⟨rfl, hb1⟩
    have Hb := Lib.hid (below_nx Hb.out hb1)
    have hz1 := hb1.size
    have HX := Lib.hid (below_blk hb1 (lt_of_block HX.out) HX.out)
    clear c0 c1
    obtain ⟨c0, c1⟩ := blk_cells2 HX.out
    have hxl := lt_of_block HX.out
    clear hb1
    go_wp2_with fail
    go_ret
    exact ⟨rfl, Hb.out⟩

open Go.ChangeMaps (open_string shut_string)
theorem laidOut : laidOutB Try.prog = true := by kernel_rfl
theorem own : ownKnob Try.prog.godebug = none := by kernel_rfl
set_option maxRecDepth 100000 in
/-- What the walk gives, for every argument. -/
theorem contract (H : Type) (enc : TypeId × Value → H) (W : World) (base : Nat) (args : Array Value) (ds gs : List (DataW H)) (before : List MemPlace)
    (hval : ∀ (j : Nat) t v, Try.f7.params[j]? = some t → args[j]? = some v → Value.okWide Try.prog W .any base t v)
    (hW : DataW.Whole enc Try.prog Try.f7.params.toList Rows.fnExactFormatTokenSpec.vars false W args.toList ds gs before) :
    Calls Try.prog 7 args W fun e W' => ∃ v, e = .returned v ∧ Rows.fnExactFormatTokenSpec.post enc Try.prog Try.f7 false true false false W args v W' := by
  have hW' := hW
  obtain ⟨p, q, hA0, hV, rfl, hfz, hnd⟩ := hW
  have hA : DataW.TrodAll enc Try.prog W 0 (fun _ => true) true Try.f7.params.toList args.toList ds p := hA0
  rw [Try.params7] at hA hval
  obtain ⟨v0, vs0, d0, ds0, p0, q0, hargs, rfl, rfl, h0, r0⟩ := trodAll_cons hA
  obtain ⟨rfl, rfl, rfl⟩ := trodAll_nil r0
  obtain rfl : args = #[v0] := by cases args; simp_all
  obtain ⟨rfl, rfl⟩ := trodVars_none hV
  have k0 := h0
  have lt0 : ∀ x ∈ p0, x.block < W.heap.size := by obtain ⟨m, hm⟩ := k0; exact DataW.trod_lt m _ _ _ hm
  obtain ⟨t0, t1, ty0, ty1, tm, rfl, rfl, rfl, tt0, tt1⟩ := Go.Joins.open_agg2 Try.underlying36 (by kernel_rfl) (by kernel_rfl) (hval 0 36 v0 rfl rfl) h0
  obtain ⟨tk, eta, -, wtk⟩ := DataW.trod_int Try.underlying3 tt0
  obtain rfl := List.head_eq_of_cons_eq eta
  obtain ⟨ts, etb, -, wts⟩ := DataW.trod_string Try.underlying9 tt1
  obtain rfl := List.head_eq_of_cons_eq etb
  clear eta etb tt0 tt1
  clear hA0
  simp only [List.append_nil] at hW'
  refine (walk tk ts W (bounds_i64 wtk).1 (bounds_i64 wtk).2 wts).mono fun e W' ⟨he, hg⟩ => ?_
  subst he
  exact ⟨_, rfl, _, _, _, [], _, [], hW', trodAll_mk1 (shut_bool Try.underlying4 _), (trodAll_cons_mk (Below.trod laidOut (by kernel_rfl) (of_decide_eq_true (by kernel_rfl)) k0 hg lt0) trodAll_mk0), rfl, hg.frame _, fun h => by cases h⟩

set_option maxRecDepth 100000 in
theorem lifted (os : Os) (started : os.Started) (H : Type) (enc : TypeId × Value → H) :
    ReturnsInHanded {} Try.checked os 7 .any (Rows.fnExactFormatTokenSpec.pre6 enc Try.prog Try.f7 Rows.fnExactFormatTokenRow.domain false) (Rows.fnExactFormatTokenSpec.post enc Try.prog Try.f7 false true false false) := by
  refine returnsInHanded_of_change (C := Try.checked) own started (by kernel_rfl) Try.func7
    (ChangeSpec.witness6 (enc := enc) (C := Try.checked) false ⟨#[], #[.agg #[.int .i64 0, .string ⟨#[]⟩]], []⟩ 8 (by kernel_rfl) (by kernel_rfl) (by kernel_rfl) (by kernel_rfl)) ?_
  intro W base args ds gs before hval hW _ _
  exact contract H enc W base args ds gs before hval hW
theorem closedFacts : joinedFacts Try.pinned.checked.prog 7 Try.f7 Rows.fnExactFormatTokenSpec Rows.fnExactFormatTokenRow = true := by
  unfold joinedFacts
  rw [init_may, init_facts.2.1, init_facts.2.2]
  kernel_rfl
theorem said : Rows.FnExactFormatTokenSaid :=
  OpenClaim.holds_of_wide 7 Try.f7 rfl rfl rfl rfl rfl rfl rfl ⟨rfl, rfl, rfl, rfl, rfl⟩ rfl rfl rfl rfl rfl (by kernel_rfl) Try.func7 closedFacts
    (of_decide_eq_true (by kernel_rfl)) (by unfold Func.isWrapper; first | (rw [if_pos (by decide +kernel)]; kernel_rfl) | (rw [if_neg (by decide +kernel)]; exact ⟨rfl, rfl⟩))
    (fun os started H enc _ => lifted os started H enc)
end Go.Proofs.Ytgicldokglpimaa.fnExactFormatToken
