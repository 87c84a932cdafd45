/- The law FnMakeDw: equal numbers have equal representations, at every code. No condition. -/
import Derived.Test.YtiemnhejonepfaaDwR
import Derived.Test.YtiemnhejonepfaaDwDraw3
import Derived.Lib.SmallJoins
import Derived.WalkKit
import Derived.ProofKit
import Derived.OpenShut
import Derived.Deep.DeepHandedRow
import Derived.Lib.LaidTab
import Derived.LaidMore
import Derived.LaidHandle
import Derived.Lay
import Derived.Stop.LaidErr
namespace Go.Proofs.Ytiemnhejonepfaa.fnMakeDw
open Go.ChangeShapes Go.WideShapes Go.ChangeAt Go.RowKit Go.Lib
attribute [local irreducible] World.cell?
set_option maxRecDepth 100000 in
set_option maxHeartbeats 3200000 in
theorem core (a0 : Option Addr) (len cap : Nat) (hs : len ≤ 1048576) (hl : len ≤ cap) (w : World) (hcode : CodeAt w w.heap.size a0 len) :
    Calls Try.prog 3 #[.slice a0 len cap] w fun e w' => e = .returned (.bool true) ∧ Below w.heap.size w w' := by
  have Hc := Lib.hid hcode
  clear hcode
  go_enter Try.func3, Try.ntmps3
  go_wp2_with (go_at_call 14; go_in)
  refine (drawNewD_any a0 len cap _ Hc.out).mono ?_
  rintro e w1 ⟨⟨n, k, rfl, kb0, kb1⟩, hb1⟩
  have hb1 := below_up (B := w.heap.size) (w := w) (by go_grown) hb1 (by simp <;> omega)
  have Hp1 := Lib.hid hb1
  have Hb1 := Lib.hid (Below.alloc hb1 (Below.size hb1) (.cells #[.int .i64 n.a, .int .i64 n.b, .int .i64 n.c, .int .i64 n.d] 25))
  have Hr1_0 := Lib.hid (heap_alloc_new w1 (.cells #[.int .i64 n.a, .int .i64 n.b, .int .i64 n.c, .int .i64 n.d] 25))
  clear hb1
  have Hi := Lib.hid (fun w => inew_any n k w (by omega) (by omega))
  have Hs := Lib.hid (fun w => snew_any n k w (by omega) (by omega))
  have Hm := Lib.hid (imul_any n rootE)
  have Hiv := Lib.hid (fun w => ivalidD (newV n k) w (eb_new n k).1 (eb_new n k).2)
  have Hsv := Lib.hid (svalidD (newV n k))
  have Hz := Lib.hid (fun w => inew_any (mulV n rootE) (k + 1) w (by omega) (by omega))
  have Hup := Lib.hid (fun h j l => @new_up n k h j l)
  have Hno := Lib.hid (show newB n k = false → newV n k = .zero from fun h => if_neg (by simp [h]))
  have Hok := Lib.hid (@newV_ok n k)
  generalize newV (mulV n rootE) (k + 1) = z at *
  generalize newB (mulV n rootE) (k + 1) = tz at *
  generalize newV n k = x at *
  generalize newB n k = t at *
  generalize mulV n rootE = m at *
  generalize mulB n rootE = u at *
  go_wp2_with fail
  refine (Hi.out _).mono ?_
  rintro e w2 ⟨rfl, hb2⟩
  have hr0 := below_blk hb2 (lt_of_block Hr1_0.out) Hr1_0.out
  have zg0 := lt_of_block hr0
  obtain ⟨c0_0, c0_1, c0_2, c0_3⟩ := blk_cells hr0
  have Hr2_0 := Lib.hid (alloc_blk (.cells #[.int .i64 x.n.a, .int .i64 x.n.b, .int .i64 x.n.c, .int .i64 x.n.d, .int .i64 x.e] 29) hr0)
  have hb2 := below_nx Hb1.out hb2
  have Hp2 := Lib.hid hb2
  have Hb2 := Lib.hid (Below.alloc hb2 (Below.size hb2) (.cells #[.int .i64 x.n.a, .int .i64 x.n.b, .int .i64 x.n.c, .int .i64 x.n.d, .int .i64 x.e] 29))
  have Hr2_1 := Lib.hid (heap_alloc_new w2 (.cells #[.int .i64 x.n.a, .int .i64 x.n.b, .int .i64 x.n.c, .int .i64 x.n.d, .int .i64 x.e] 29))
  clear hr0
  clear hb2
  go_wp2_with fail
  refine (Hs.out _).mono ?_
  rintro e w3 ⟨rfl, hb3⟩
  clear zg0 c0_0 c0_1 c0_2 c0_3
  have hr0 := below_blk hb3 (lt_of_block Hr2_0.out) Hr2_0.out
  have zg0 := lt_of_block hr0
  obtain ⟨c0_0, c0_1, c0_2, c0_3⟩ := blk_cells hr0
  have Hr3_0 := Lib.hid (alloc_blk (.cells #[.int .i64 x.n.a, .int .i64 x.n.b, .int .i64 x.n.c, .int .i64 x.n.d, .int .i64 x.e] 29) hr0)
  have hr1 := below_blk hb3 (lt_of_block Hr2_1.out) Hr2_1.out
  have zg1 := lt_of_block hr1
  obtain ⟨c1_0, c1_1, c1_2, c1_3, c1_4⟩ := blk_cells5 hr1
  have Hr3_1 := Lib.hid (alloc_blk (.cells #[.int .i64 x.n.a, .int .i64 x.n.b, .int .i64 x.n.c, .int .i64 x.n.d, .int .i64 x.e] 29) hr1)
  have hb3 := below_nx Hb2.out hb3
  have Hp3 := Lib.hid hb3
  have Hb3 := Lib.hid (Below.alloc hb3 (Below.size hb3) (.cells #[.int .i64 x.n.a, .int .i64 x.n.b, .int .i64 x.n.c, .int .i64 x.n.d, .int .i64 x.e] 29))
  have Hr3_2 := Lib.hid (heap_alloc_new w3 (.cells #[.int .i64 x.n.a, .int .i64 x.n.b, .int .i64 x.n.c, .int .i64 x.n.d, .int .i64 x.e] 29))
  clear hr0 hr1
  clear hb3
  cases t
  · obtain rfl := Hno.out (by trivial)
    have z0 : Dw.zero.n.a = 0 := rfl
    have z1 : Dw.zero.n.b = 0 := rfl
    have z2 : Dw.zero.n.c = 0 := rfl
    have z3 : Dw.zero.n.d = 0 := rfl
    have z4 : Dw.zero.e = 0 := rfl
    go_wp2_with fail
    go_returns
    have hsz := Hp3.out.size
    exact ⟨rfl, by have := Hp3.out; go_grown⟩
  · have hok := okD_true.2 (Hok.out (by trivial))
    rw [hok] at Hiv
    rw [hok] at Hsv
    clear hok
    go_wp2_with fail
    refine (Hm.out _).mono ?_
    rintro e w4 ⟨rfl, hb4⟩
    clear zg0 c0_0 c0_1 c0_2 c0_3 zg1 c1_0 c1_1 c1_2 c1_3 c1_4
    have hr0 := below_blk hb4 (lt_of_block Hr3_0.out) Hr3_0.out
    have zg0 := lt_of_block hr0
    obtain ⟨c0_0, c0_1, c0_2, c0_3⟩ := blk_cells hr0
    have Hr4_0 := Lib.hid (alloc_blk (.cells #[.int .i64 m.a, .int .i64 m.b, .int .i64 m.c, .int .i64 m.d] 25) hr0)
    have hr1 := below_blk hb4 (lt_of_block Hr3_1.out) Hr3_1.out
    have zg1 := lt_of_block hr1
    obtain ⟨c1_0, c1_1, c1_2, c1_3, c1_4⟩ := blk_cells5 hr1
    have Hr4_1 := Lib.hid (alloc_blk (.cells #[.int .i64 m.a, .int .i64 m.b, .int .i64 m.c, .int .i64 m.d] 25) hr1)
    have hr2 := below_blk hb4 (lt_of_block Hr3_2.out) Hr3_2.out
    have zg2 := lt_of_block hr2
    obtain ⟨c2_0, c2_1, c2_2, c2_3, c2_4⟩ := blk_cells5 hr2
    have Hr4_2 := Lib.hid (alloc_blk (.cells #[.int .i64 m.a, .int .i64 m.b, .int .i64 m.c, .int .i64 m.d] 25) hr2)
    have hb4 := below_nx Hb3.out hb4
    have Hp4 := Lib.hid hb4
    have Hb4 := Lib.hid (Below.alloc hb4 (Below.size hb4) (.cells #[.int .i64 m.a, .int .i64 m.b, .int .i64 m.c, .int .i64 m.d] 25))
    have Hr4_3 := Lib.hid (heap_alloc_new w4 (.cells #[.int .i64 m.a, .int .i64 m.b, .int .i64 m.c, .int .i64 m.d] 25))
    clear hr0 hr1 hr2
    clear hb4
    go_wp2_with fail
    refine (Hiv.out _).mono ?_
    rintro e w5 ⟨rfl, hb5⟩
    clear zg0 c0_0 c0_1 c0_2 c0_3 zg1 c1_0 c1_1 c1_2 c1_3 c1_4 zg2 c2_0 c2_1 c2_2 c2_3 c2_4
    have hr0 := below_blk hb5 (lt_of_block Hr4_0.out) Hr4_0.out
    have zg0 := lt_of_block hr0
    obtain ⟨c0_0, c0_1, c0_2, c0_3⟩ := blk_cells hr0
    have Hr5_0 := Lib.hid hr0
    have hr1 := below_blk hb5 (lt_of_block Hr4_1.out) Hr4_1.out
    have zg1 := lt_of_block hr1
    obtain ⟨c1_0, c1_1, c1_2, c1_3, c1_4⟩ := blk_cells5 hr1
    have Hr5_1 := Lib.hid hr1
    have hr2 := below_blk hb5 (lt_of_block Hr4_2.out) Hr4_2.out
    have zg2 := lt_of_block hr2
    obtain ⟨c2_0, c2_1, c2_2, c2_3, c2_4⟩ := blk_cells5 hr2
    have Hr5_2 := Lib.hid hr2
    have hr3 := below_blk hb5 (lt_of_block Hr4_3.out) Hr4_3.out
    have zg3 := lt_of_block hr3
    obtain ⟨c3_0, c3_1, c3_2, c3_3⟩ := blk_cells hr3
    have Hr5_3 := Lib.hid hr3
    have hb5 := below_nx Hb4.out hb5
    have Hp5 := Lib.hid hb5
    have Hb5 := Lib.hid hb5
    clear hr0 hr1 hr2 hr3
    clear hb5
    go_wp2_with fail
    refine (Hsv.out _).mono ?_
    rintro e w6 ⟨rfl, hb6⟩
    clear zg0 c0_0 c0_1 c0_2 c0_3 zg1 c1_0 c1_1 c1_2 c1_3 c1_4 zg2 c2_0 c2_1 c2_2 c2_3 c2_4 zg3 c3_0 c3_1 c3_2 c3_3
    have hr0 := below_blk hb6 (lt_of_block Hr5_0.out) Hr5_0.out
    have zg0 := lt_of_block hr0
    obtain ⟨c0_0, c0_1, c0_2, c0_3⟩ := blk_cells hr0
    have Hr6_0 := Lib.hid hr0
    have hr1 := below_blk hb6 (lt_of_block Hr5_1.out) Hr5_1.out
    have zg1 := lt_of_block hr1
    obtain ⟨c1_0, c1_1, c1_2, c1_3, c1_4⟩ := blk_cells5 hr1
    have Hr6_1 := Lib.hid hr1
    have hr2 := below_blk hb6 (lt_of_block Hr5_2.out) Hr5_2.out
    have zg2 := lt_of_block hr2
    obtain ⟨c2_0, c2_1, c2_2, c2_3, c2_4⟩ := blk_cells5 hr2
    have Hr6_2 := Lib.hid hr2
    have hr3 := below_blk hb6 (lt_of_block Hr5_3.out) Hr5_3.out
    have zg3 := lt_of_block hr3
    obtain ⟨c3_0, c3_1, c3_2, c3_3⟩ := blk_cells hr3
    have Hr6_3 := Lib.hid hr3
    have hb6 := below_nx Hb5.out hb6
    have Hp6 := Lib.hid hb6
    have Hb6 := Lib.hid hb6
    clear hr0 hr1 hr2 hr3
    clear hb6
    cases u
    · go_wp2_with fail
      refine (Hiv.out _).mono ?_
      rintro e w7 ⟨rfl, hb7⟩
      clear zg0 c0_0 c0_1 c0_2 c0_3 zg1 c1_0 c1_1 c1_2 c1_3 c1_4 zg2 c2_0 c2_1 c2_2 c2_3 c2_4 zg3 c3_0 c3_1 c3_2 c3_3
      have hr0 := below_blk hb7 (lt_of_block Hr6_0.out) Hr6_0.out
      have zg0 := lt_of_block hr0
      obtain ⟨c0_0, c0_1, c0_2, c0_3⟩ := blk_cells hr0
      have Hr7_0 := Lib.hid hr0
      have hr1 := below_blk hb7 (lt_of_block Hr6_1.out) Hr6_1.out
      have zg1 := lt_of_block hr1
      obtain ⟨c1_0, c1_1, c1_2, c1_3, c1_4⟩ := blk_cells5 hr1
      have Hr7_1 := Lib.hid hr1
      have hr2 := below_blk hb7 (lt_of_block Hr6_2.out) Hr6_2.out
      have zg2 := lt_of_block hr2
      obtain ⟨c2_0, c2_1, c2_2, c2_3, c2_4⟩ := blk_cells5 hr2
      have Hr7_2 := Lib.hid hr2
      have hr3 := below_blk hb7 (lt_of_block Hr6_3.out) Hr6_3.out
      have zg3 := lt_of_block hr3
      obtain ⟨c3_0, c3_1, c3_2, c3_3⟩ := blk_cells hr3
      have Hr7_3 := Lib.hid hr3
      have hb7 := below_nx Hb6.out hb7
      have Hp7 := Lib.hid hb7
      have Hb7 := Lib.hid hb7
      clear hr0 hr1 hr2 hr3
      clear hb7
      go_wp2_with fail
      go_returns
      have hsz := Hp7.out.size
      exact ⟨rfl, by have := Hp7.out; go_grown⟩
    · by_cases hk : 120 ≤ k
      · have hd : decide ((120 : Int) ≤ k) = true := decide_eq_true hk
        go_wp2_with fail
        refine (Hiv.out _).mono ?_
        rintro e w7 ⟨rfl, hb7⟩
        clear zg0 c0_0 c0_1 c0_2 c0_3 zg1 c1_0 c1_1 c1_2 c1_3 c1_4 zg2 c2_0 c2_1 c2_2 c2_3 c2_4 zg3 c3_0 c3_1 c3_2 c3_3
        have hr0 := below_blk hb7 (lt_of_block Hr6_0.out) Hr6_0.out
        have zg0 := lt_of_block hr0
        obtain ⟨c0_0, c0_1, c0_2, c0_3⟩ := blk_cells hr0
        have Hr7_0 := Lib.hid hr0
        have hr1 := below_blk hb7 (lt_of_block Hr6_1.out) Hr6_1.out
        have zg1 := lt_of_block hr1
        obtain ⟨c1_0, c1_1, c1_2, c1_3, c1_4⟩ := blk_cells5 hr1
        have Hr7_1 := Lib.hid hr1
        have hr2 := below_blk hb7 (lt_of_block Hr6_2.out) Hr6_2.out
        have zg2 := lt_of_block hr2
        obtain ⟨c2_0, c2_1, c2_2, c2_3, c2_4⟩ := blk_cells5 hr2
        have Hr7_2 := Lib.hid hr2
        have hr3 := below_blk hb7 (lt_of_block Hr6_3.out) Hr6_3.out
        have zg3 := lt_of_block hr3
        obtain ⟨c3_0, c3_1, c3_2, c3_3⟩ := blk_cells hr3
        have Hr7_3 := Lib.hid hr3
        have hb7 := below_nx Hb6.out hb7
        have Hp7 := Lib.hid hb7
        have Hb7 := Lib.hid hb7
        clear hr0 hr1 hr2 hr3
        clear hb7
        go_wp2_with fail
        go_returns
        have hsz := Hp7.out.size
        exact ⟨rfl, by have := Hp7.out; go_grown⟩
      · have hd : decide ((120 : Int) ≤ k) = false := decide_eq_false hk
        obtain ⟨rfl, rfl⟩ := Hup.out (by trivial) (by trivial) (by omega)
        go_wp2_with fail
        refine (Hz.out _).mono ?_
        rintro e w7 ⟨rfl, hb7⟩
        clear zg0 c0_0 c0_1 c0_2 c0_3 zg1 c1_0 c1_1 c1_2 c1_3 c1_4 zg2 c2_0 c2_1 c2_2 c2_3 c2_4 zg3 c3_0 c3_1 c3_2 c3_3
        have hr0 := below_blk hb7 (lt_of_block Hr6_0.out) Hr6_0.out
        have zg0 := lt_of_block hr0
        obtain ⟨c0_0, c0_1, c0_2, c0_3⟩ := blk_cells hr0
        have Hr7_0 := Lib.hid (alloc_blk (.cells #[.int .i64 z.n.a, .int .i64 z.n.b, .int .i64 z.n.c, .int .i64 z.n.d, .int .i64 z.e] 29) hr0)
        have hr1 := below_blk hb7 (lt_of_block Hr6_1.out) Hr6_1.out
        have zg1 := lt_of_block hr1
        obtain ⟨c1_0, c1_1, c1_2, c1_3, c1_4⟩ := blk_cells5 hr1
        have Hr7_1 := Lib.hid (alloc_blk (.cells #[.int .i64 z.n.a, .int .i64 z.n.b, .int .i64 z.n.c, .int .i64 z.n.d, .int .i64 z.e] 29) hr1)
        have hr2 := below_blk hb7 (lt_of_block Hr6_2.out) Hr6_2.out
        have zg2 := lt_of_block hr2
        obtain ⟨c2_0, c2_1, c2_2, c2_3, c2_4⟩ := blk_cells5 hr2
        have Hr7_2 := Lib.hid (alloc_blk (.cells #[.int .i64 z.n.a, .int .i64 z.n.b, .int .i64 z.n.c, .int .i64 z.n.d, .int .i64 z.e] 29) hr2)
        have hr3 := below_blk hb7 (lt_of_block Hr6_3.out) Hr6_3.out
        have zg3 := lt_of_block hr3
        obtain ⟨c3_0, c3_1, c3_2, c3_3⟩ := blk_cells hr3
        have Hr7_3 := Lib.hid (alloc_blk (.cells #[.int .i64 z.n.a, .int .i64 z.n.b, .int .i64 z.n.c, .int .i64 z.n.d, .int .i64 z.e] 29) hr3)
        have hb7 := below_nx Hb6.out hb7
        have Hp7 := Lib.hid hb7
        have Hb7 := Lib.hid (Below.alloc hb7 (Below.size hb7) (.cells #[.int .i64 z.n.a, .int .i64 z.n.b, .int .i64 z.n.c, .int .i64 z.n.d, .int .i64 z.e] 29))
        have Hr7_4 := Lib.hid (heap_alloc_new w7 (.cells #[.int .i64 z.n.a, .int .i64 z.n.b, .int .i64 z.n.c, .int .i64 z.n.d, .int .i64 z.e] 29))
        clear hr0 hr1 hr2 hr3
        clear hb7
        go_wp2_with fail
        go_returns
        have hsz := Hp7.out.size
        exact ⟨rfl, by have := Hp7.out; go_grown⟩
set_option maxRecDepth 100000 in
set_option maxHeartbeats 400000 in
theorem walk (a0 : Option Addr) (len cap : Nat) (w : World) (hm : len ≤ maxLen) (hl : len ≤ cap) (hc : len ≤ 1048576 → CodeAt w w.heap.size a0 len) :
    Calls Try.prog 3 #[.slice a0 len cap] w fun e w' => e = .returned (.bool true) ∧ Below w.heap.size w w' := by
  by_cases hs : len ≤ 1048576
  · exact core a0 len cap hs hl w (hc hs)
  · unfold maxLen at hm
    clear hc
    go_enter Try.func3, Try.ntmps3
    go_wp2_with (go_at_call 14; go_in)
    go_ret
    exact ⟨rfl, Below.refl _ _⟩

open Go.ChangeMaps (open_string shut_string)
theorem laidOut : laidOutB Try.prog = true := by kernel_rfl
theorem own : ownKnob Try.prog.godebug = none := by kernel_rfl
set_option maxRecDepth 100000 in
/-- What the walk gives, for every argument. -/
theorem contract (H : Type) (enc : TypeId × Value → H) (W : World) (base : Nat) (args : Array Value) (ds gs : List (DataW H)) (before : List MemPlace)
    (hval : ∀ (j : Nat) t v, Try.f3.params[j]? = some t → args[j]? = some v → Value.okWide Try.prog W .any base t v)
    (hW : DataW.Whole enc Try.prog Try.f3.params.toList Rows.fnMakeDwSpec.vars false W args.toList ds gs before) :
    Calls Try.prog 3 args W fun e W' => ∃ v, e = .returned v ∧ Rows.fnMakeDwSpec.post enc Try.prog Try.f3 false true false false W args v W' := by
  have hW' := hW
  obtain ⟨p, q, hA0, hV, rfl, hfz, hnd⟩ := hW
  have hA : DataW.TrodAll enc Try.prog W 0 (fun _ => true) true Try.f3.params.toList args.toList ds p := hA0
  rw [Try.params3] at hA hval
  obtain ⟨v0, vs0, d0, ds0, p0, q0, hargs, rfl, rfl, h0, r0⟩ := trodAll_cons hA
  obtain ⟨rfl, rfl, rfl⟩ := trodAll_nil r0
  obtain rfl : args = #[v0] := by cases args; simp_all
  obtain ⟨rfl, rfl⟩ := trodVars_none hV
  obtain ⟨ca, cl, cc, rfl⟩ := okWide_slice Try.underlying22 (hval 0 22 v0 rfl rfl)
  have k0 := h0
  have lt0 : ∀ x ∈ p0, x.block < W.heap.size := by obtain ⟨m, hm⟩ := k0; exact DataW.trod_lt m _ _ _ hm
  have ch : (cl ≤ 1048576 → CodeAt W W.heap.size ca cl) ∧ cl ≤ maxLen ∧ cl ≤ cc := by
    obtain ⟨fuel, hf⟩ := h0
    rcases open_ints Try.underlying22 Try.underlying5 (by kernel_rfl) hf with ⟨hcs, _⟩ | ⟨x, l, c, zs, hcs, _, hl, hm, hz, _, hcell, hwz⟩
    · simp [Value.cells] at hcs
      obtain ⟨rfl, rfl, rfl⟩ := hcs
      exact ⟨fun _ => ⟨by omega, fun h => absurd h (by omega)⟩, Nat.zero_le _, Nat.le_refl _⟩
    · simp [Value.cells] at hcs
      obtain ⟨rfl, rfl, rfl⟩ := hcs
      have hz2 : zs.length = cc := by simpa using hz
      exact ⟨fun hs => code_of hs (by omega) hcell hwz, by omega, hl⟩
  clear hA0
  simp only [List.append_nil] at hW'
  refine (walk ca cl cc W ch.2.1 ch.2.2 ch.1).mono fun e W' ⟨he, hg⟩ => ?_
  subst he
  exact ⟨_, rfl, _, _, _, [], _, [], hW', trodAll_mk1 (shut_bool Try.underlying4 _), (trodAll_cons_mk (Below.trod laidOut (by kernel_rfl) (of_decide_eq_true (by kernel_rfl)) k0 hg lt0) trodAll_mk0), rfl, hg.frame _, fun h => by cases h⟩

set_option maxRecDepth 100000 in
theorem lifted (os : Os) (started : os.Started) (H : Type) (enc : TypeId × Value → H) :
    ReturnsInHanded {} Try.checked os 3 .any (Rows.fnMakeDwSpec.pre6 enc Try.prog Try.f3 Rows.fnMakeDwRow.domain false) (Rows.fnMakeDwSpec.post enc Try.prog Try.f3 false true false false) := by
  refine returnsInHanded_of_change (C := Try.checked) own started (by kernel_rfl) Try.func3
    (ChangeSpec.witness6 (enc := enc) (C := Try.checked) false ⟨#[], #[.slice none 0 0], []⟩ 8 (by kernel_rfl) (by kernel_rfl) (by kernel_rfl) (by kernel_rfl)) ?_
  intro W base args ds gs before hval hW _ _
  exact contract H enc W base args ds gs before hval hW
theorem said : Rows.FnMakeDwSaid :=
  OpenClaim.holds_of_wide 3 Try.f3 rfl rfl rfl rfl rfl rfl rfl ⟨rfl, rfl, rfl, rfl, rfl⟩ rfl rfl rfl rfl rfl (by kernel_rfl) Try.func3 (by kernel_rfl)
    (of_decide_eq_true (by kernel_rfl)) (by unfold Func.isWrapper; first | (rw [if_pos (by decide +kernel)]; kernel_rfl) | (rw [if_neg (by decide +kernel)]; exact ⟨rfl, rfl⟩))
    (fun os started H enc _ => lifted os started H enc)
end Go.Proofs.Ytiemnhejonepfaa.fnMakeDw
