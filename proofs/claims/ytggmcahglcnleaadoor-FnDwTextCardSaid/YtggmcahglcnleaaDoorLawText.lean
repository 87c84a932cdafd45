/- The law FnDwText: amplitudes round-trip through their text, at every code. No condition. -/
import Derived.Test.YtggmcahglcnleaaDoorTxI
import Derived.Test.YtggmcahglcnleaaDoorCards
import Derived.Test.YtggmcahglcnleaaDoorTie
import Derived.Lib.SmallJoins
import Derived.WalkKit
import Derived.ProofKit
import Derived.OpenShut
import Derived.Deep.DeepHandedRow
import Derived.Lib.LaidTab
import Derived.LaidMore
import Derived.LaidHandle
import Derived.Lay
import Derived.Stop.LaidErr
namespace Go.Proofs.YtggmcahglcnleaaDoor.fnDwText
open Go.ChangeShapes Go.WideShapes Go.ChangeAt Go.RowKit Go.Lib
attribute [local irreducible] World.cell?
theorem parseV_eb (s : ByteArray) : -9223372036854775808 ≤ (parseV s).e ∧ (parseV s).e ≤ 9223372036854775807 := by
  cases h : parseB s
  · rw [(parse_no (fun x hx => by rw [(parse_yes hx).2] at h; cases h)).1]
    exact ⟨(by decide : (-9223372036854775808 : Int) ≤ 0), (by decide : (0 : Int) ≤ 9223372036854775807)⟩
  · have := (parse_reads h).1.2
    omega
theorem parse_back {t : ByteArray} (h : parseB t = true) : textD (parseV t) = t := (textD_of (parse_reads h).1).trans (parse_reads h).2
set_option maxRecDepth 100000 in
set_option maxHeartbeats 6400000 in
theorem core (a0 : Option Addr) (len cap : Nat) (hs : len ≤ 1048576) (_ : len ≤ cap) (w : World) (hcode : CodeAt w w.heap.size a0 len) (hL : LW w) :
    Calls Tryd.prog 3 #[.slice a0 len cap] w fun e w' => e = .returned (.bool true) ∧ Below w.heap.size w w' := by
  have Hc := Lib.hid hcode
  have HL := Lib.hid hL
  clear hcode hL
  go_enter Tryd.func3, Tryd.ntmps3
  go_wp2_with (go_at_call 6; go_in)
  refine (drawFormatD_any a0 len cap _ Hc.out).mono ?_
  rintro e w1 ⟨⟨x, rfl, x0, x1⟩, hb1⟩
  have hb1 := below_up (B := w.heap.size) (w := w) (by go_grown) hb1 (by simp <;> omega)
  have Hp1 := Lib.hid hb1
  have Hb1 := Lib.hid (Below.alloc hb1 (Below.size hb1) (.cells #[.int .i64 x.n.a, .int .i64 x.n.b, .int .i64 x.n.c, .int .i64 x.n.d, .int .i64 x.e] 27))
  have Hr1_0 := Lib.hid (heap_alloc_new w1 (.cells #[.int .i64 x.n.a, .int .i64 x.n.b, .int .i64 x.n.c, .int .i64 x.n.d, .int .i64 x.e] 27))
  clear hb1
  have Hf := Lib.hid (fun w h => iformat_lw x w x0 x1 h)
  have Hsf := Lib.hid (sformat_any x)
  have Hsv := Lib.hid (svalidD x)
  have hts : (textD x).size ≤ 1048576 := Nat.le_trans (textD_size x) (by omega)
  have Hp := Lib.hid (fun w h => iparse_lw (textD x) w hts h)
  have Hpx := Lib.hid (fun h => (@parse_text x).2 h)
  rw [show parseB (textD x) = okD x from (@parse_text x).1] at Hp
  have Hok := Lib.hid (@okD_true x)
  clear hts
  generalize parseV (textD x) = y at *
  generalize textD x = S at *
  generalize okD x = ok at *
  go_wp2_with fail
  refine (Hf.out _ (HL.out.below Hb1.out)).mono ?_
  rintro e w2 ⟨rfl, hb2⟩
  have hr0 := below_blk hb2 (lt_of_block Hr1_0.out) Hr1_0.out
  have zg0 := lt_of_block hr0
  obtain ⟨c0_0, c0_1, c0_2, c0_3, c0_4⟩ := blk_cells5 hr0
  have Hr2_0 := Lib.hid hr0
  have hb2 := below_nx Hb1.out hb2
  have Hp2 := Lib.hid hb2
  have Hb2 := Lib.hid hb2
  clear hr0
  clear hb2
  go_wp2_with fail
  refine (Hp.out _ (HL.out.below Hb2.out)).mono ?_
  rintro e w3 ⟨rfl, hb3⟩
  clear zg0 c0_0 c0_1 c0_2 c0_3 c0_4
  have hr0 := below_blk hb3 (lt_of_block Hr2_0.out) Hr2_0.out
  have zg0 := lt_of_block hr0
  obtain ⟨c0_0, c0_1, c0_2, c0_3, c0_4⟩ := blk_cells5 hr0
  have Hr3_0 := Lib.hid (alloc_blk (.cells #[.int .i64 y.n.a, .int .i64 y.n.b, .int .i64 y.n.c, .int .i64 y.n.d, .int .i64 y.e] 27) hr0)
  have hb3 := below_nx Hb2.out hb3
  have Hp3 := Lib.hid hb3
  have Hb3 := Lib.hid (Below.alloc hb3 (Below.size hb3) (.cells #[.int .i64 y.n.a, .int .i64 y.n.b, .int .i64 y.n.c, .int .i64 y.n.d, .int .i64 y.e] 27))
  have Hr3_1 := Lib.hid (heap_alloc_new w3 (.cells #[.int .i64 y.n.a, .int .i64 y.n.b, .int .i64 y.n.c, .int .i64 y.n.d, .int .i64 y.e] 27))
  clear hr0
  clear hb3
  go_wp2_with fail
  refine (drawParseD_any a0 len cap _ ((Hc.out.below Hb3.out).mono Hb3.out.size)).mono ?_
  rintro e w4 ⟨⟨t, rfl, ht⟩, hb4⟩
  clear zg0 c0_0 c0_1 c0_2 c0_3 c0_4
  have hr0 := below_blk hb4 (lt_of_block Hr3_0.out) Hr3_0.out
  have zg0 := lt_of_block hr0
  obtain ⟨c0_0, c0_1, c0_2, c0_3, c0_4⟩ := blk_cells5 hr0
  have Hr4_0 := Lib.hid hr0
  have hr1 := below_blk hb4 (lt_of_block Hr3_1.out) Hr3_1.out
  have zg1 := lt_of_block hr1
  obtain ⟨c1_0, c1_1, c1_2, c1_3, c1_4⟩ := blk_cells5 hr1
  have Hr4_1 := Lib.hid hr1
  have hb4 := below_nx Hb3.out hb4
  have Hp4 := Lib.hid hb4
  have Hb4 := Lib.hid hb4
  clear hr0 hr1
  clear hb4
  have Hpt := Lib.hid (fun w h => iparse_lw t w ht h)
  have Hst := Lib.hid (fun w => sparse_any t w ht)
  have Hft := Lib.hid (fun w h => iformat_lw (parseV t) w (parseV_eb t).1 (parseV_eb t).2 h)
  have Hbk := Lib.hid (@parse_back t)
  clear ht
  generalize textD (parseV t) = U at *
  generalize parseV t = z at *
  generalize parseB t = rt at *
  go_wp2_with fail
  refine (Hpt.out _ (HL.out.below Hb4.out)).mono ?_
  rintro e w5 ⟨rfl, hb5⟩
  clear zg0 c0_0 c0_1 c0_2 c0_3 c0_4 zg1 c1_0 c1_1 c1_2 c1_3 c1_4
  have hr0 := below_blk hb5 (lt_of_block Hr4_0.out) Hr4_0.out
  have zg0 := lt_of_block hr0
  obtain ⟨c0_0, c0_1, c0_2, c0_3, c0_4⟩ := blk_cells5 hr0
  have Hr5_0 := Lib.hid (alloc_blk (.cells #[.int .i64 z.n.a, .int .i64 z.n.b, .int .i64 z.n.c, .int .i64 z.n.d, .int .i64 z.e] 27) hr0)
  have hr1 := below_blk hb5 (lt_of_block Hr4_1.out) Hr4_1.out
  have zg1 := lt_of_block hr1
  obtain ⟨c1_0, c1_1, c1_2, c1_3, c1_4⟩ := blk_cells5 hr1
  have Hr5_1 := Lib.hid (alloc_blk (.cells #[.int .i64 z.n.a, .int .i64 z.n.b, .int .i64 z.n.c, .int .i64 z.n.d, .int .i64 z.e] 27) hr1)
  have hb5 := below_nx Hb4.out hb5
  have Hp5 := Lib.hid hb5
  have Hb5 := Lib.hid (Below.alloc hb5 (Below.size hb5) (.cells #[.int .i64 z.n.a, .int .i64 z.n.b, .int .i64 z.n.c, .int .i64 z.n.d, .int .i64 z.e] 27))
  have Hr5_2 := Lib.hid (heap_alloc_new w5 (.cells #[.int .i64 z.n.a, .int .i64 z.n.b, .int .i64 z.n.c, .int .i64 z.n.d, .int .i64 z.e] 27))
  clear hr0 hr1
  clear hb5
  go_wp2_with fail
  refine (Hst.out _).mono ?_
  rintro e w6 ⟨rfl, hb6⟩
  clear zg0 c0_0 c0_1 c0_2 c0_3 c0_4 zg1 c1_0 c1_1 c1_2 c1_3 c1_4
  have hr0 := below_blk hb6 (lt_of_block Hr5_0.out) Hr5_0.out
  have zg0 := lt_of_block hr0
  obtain ⟨c0_0, c0_1, c0_2, c0_3, c0_4⟩ := blk_cells5 hr0
  have Hr6_0 := Lib.hid (alloc_blk (.cells #[.int .i64 z.n.a, .int .i64 z.n.b, .int .i64 z.n.c, .int .i64 z.n.d, .int .i64 z.e] 27) hr0)
  have hr1 := below_blk hb6 (lt_of_block Hr5_1.out) Hr5_1.out
  have zg1 := lt_of_block hr1
  obtain ⟨c1_0, c1_1, c1_2, c1_3, c1_4⟩ := blk_cells5 hr1
  have Hr6_1 := Lib.hid (alloc_blk (.cells #[.int .i64 z.n.a, .int .i64 z.n.b, .int .i64 z.n.c, .int .i64 z.n.d, .int .i64 z.e] 27) hr1)
  have hr2 := below_blk hb6 (lt_of_block Hr5_2.out) Hr5_2.out
  have zg2 := lt_of_block hr2
  obtain ⟨c2_0, c2_1, c2_2, c2_3, c2_4⟩ := blk_cells5 hr2
  have Hr6_2 := Lib.hid (alloc_blk (.cells #[.int .i64 z.n.a, .int .i64 z.n.b, .int .i64 z.n.c, .int .i64 z.n.d, .int .i64 z.e] 27) hr2)
  have hb6 := below_nx Hb5.out hb6
  have Hp6 := Lib.hid hb6
  have Hb6 := Lib.hid (Below.alloc hb6 (Below.size hb6) (.cells #[.int .i64 z.n.a, .int .i64 z.n.b, .int .i64 z.n.c, .int .i64 z.n.d, .int .i64 z.e] 27))
  have Hr6_3 := Lib.hid (heap_alloc_new w6 (.cells #[.int .i64 z.n.a, .int .i64 z.n.b, .int .i64 z.n.c, .int .i64 z.n.d, .int .i64 z.e] 27))
  clear hr0 hr1 hr2
  clear hb6
  go_wp2_with fail
  refine (Hsf.out _).mono ?_
  rintro e w7 ⟨rfl, hb7⟩
  clear zg0 c0_0 c0_1 c0_2 c0_3 c0_4 zg1 c1_0 c1_1 c1_2 c1_3 c1_4 zg2 c2_0 c2_1 c2_2 c2_3 c2_4
  have hr0 := below_blk hb7 (lt_of_block Hr6_0.out) Hr6_0.out
  have zg0 := lt_of_block hr0
  obtain ⟨c0_0, c0_1, c0_2, c0_3, c0_4⟩ := blk_cells5 hr0
  have Hr7_0 := Lib.hid hr0
  have hr1 := below_blk hb7 (lt_of_block Hr6_1.out) Hr6_1.out
  have zg1 := lt_of_block hr1
  obtain ⟨c1_0, c1_1, c1_2, c1_3, c1_4⟩ := blk_cells5 hr1
  have Hr7_1 := Lib.hid hr1
  have hr2 := below_blk hb7 (lt_of_block Hr6_2.out) Hr6_2.out
  have zg2 := lt_of_block hr2
  obtain ⟨c2_0, c2_1, c2_2, c2_3, c2_4⟩ := blk_cells5 hr2
  have Hr7_2 := Lib.hid hr2
  have hr3 := below_blk hb7 (lt_of_block Hr6_3.out) Hr6_3.out
  have zg3 := lt_of_block hr3
  obtain ⟨c3_0, c3_1, c3_2, c3_3, c3_4⟩ := blk_cells5 hr3
  have Hr7_3 := Lib.hid hr3
  have hb7 := below_nx Hb6.out hb7
  have Hp7 := Lib.hid hb7
  have Hb7 := Lib.hid hb7
  clear hr0 hr1 hr2 hr3
  clear hb7
  go_wp2_with fail
  refine (Hsv.out _).mono ?_
  rintro e w8 ⟨rfl, hb8⟩
  clear zg0 c0_0 c0_1 c0_2 c0_3 c0_4 zg1 c1_0 c1_1 c1_2 c1_3 c1_4 zg2 c2_0 c2_1 c2_2 c2_3 c2_4 zg3 c3_0 c3_1 c3_2 c3_3 c3_4
  have hr0 := below_blk hb8 (lt_of_block Hr7_0.out) Hr7_0.out
  have zg0 := lt_of_block hr0
  obtain ⟨c0_0, c0_1, c0_2, c0_3, c0_4⟩ := blk_cells5 hr0
  have Hr8_0 := Lib.hid hr0
  have hr1 := below_blk hb8 (lt_of_block Hr7_1.out) Hr7_1.out
  have zg1 := lt_of_block hr1
  obtain ⟨c1_0, c1_1, c1_2, c1_3, c1_4⟩ := blk_cells5 hr1
  have Hr8_1 := Lib.hid hr1
  have hr2 := below_blk hb8 (lt_of_block Hr7_2.out) Hr7_2.out
  have zg2 := lt_of_block hr2
  obtain ⟨c2_0, c2_1, c2_2, c2_3, c2_4⟩ := blk_cells5 hr2
  have Hr8_2 := Lib.hid hr2
  have hr3 := below_blk hb8 (lt_of_block Hr7_3.out) Hr7_3.out
  have zg3 := lt_of_block hr3
  obtain ⟨c3_0, c3_1, c3_2, c3_3, c3_4⟩ := blk_cells5 hr3
  have Hr8_3 := Lib.hid hr3
  have hb8 := below_nx Hb7.out hb8
  have Hp8 := Lib.hid hb8
  have Hb8 := Lib.hid hb8
  clear hr0 hr1 hr2 hr3
  clear hb8
  cases ok
  · cases rt
    · go_wp2_with fail
      go_returns
      have hsz := Hp8.out.size
      exact ⟨rfl, by have := Hp8.out; go_grown⟩
    · obtain rfl := Hbk.out (by trivial)
      go_wp2_with fail
      refine (Hft.out _ (HL.out.below Hb8.out)).mono ?_
      rintro e w9 ⟨rfl, hb9⟩
      clear zg0 c0_0 c0_1 c0_2 c0_3 c0_4 zg1 c1_0 c1_1 c1_2 c1_3 c1_4 zg2 c2_0 c2_1 c2_2 c2_3 c2_4 zg3 c3_0 c3_1 c3_2 c3_3 c3_4
      have hr0 := below_blk hb9 (lt_of_block Hr8_0.out) Hr8_0.out
      have zg0 := lt_of_block hr0
      obtain ⟨c0_0, c0_1, c0_2, c0_3, c0_4⟩ := blk_cells5 hr0
      have Hr9_0 := Lib.hid hr0
      have hr1 := below_blk hb9 (lt_of_block Hr8_1.out) Hr8_1.out
      have zg1 := lt_of_block hr1
      obtain ⟨c1_0, c1_1, c1_2, c1_3, c1_4⟩ := blk_cells5 hr1
      have Hr9_1 := Lib.hid hr1
      have hr2 := below_blk hb9 (lt_of_block Hr8_2.out) Hr8_2.out
      have zg2 := lt_of_block hr2
      obtain ⟨c2_0, c2_1, c2_2, c2_3, c2_4⟩ := blk_cells5 hr2
      have Hr9_2 := Lib.hid hr2
      have hr3 := below_blk hb9 (lt_of_block Hr8_3.out) Hr8_3.out
      have zg3 := lt_of_block hr3
      obtain ⟨c3_0, c3_1, c3_2, c3_3, c3_4⟩ := blk_cells5 hr3
      have Hr9_3 := Lib.hid hr3
      have hb9 := below_nx Hb8.out hb9
      have Hp9 := Lib.hid hb9
      have Hb9 := Lib.hid hb9
      clear hr0 hr1 hr2 hr3
      clear hb9
      go_wp2_with fail
      go_returns
      have hsz := Hp9.out.size
      exact ⟨rfl, by have := Hp9.out; go_grown⟩
  · obtain rfl := Hpx.out (Hok.out.1 (by trivial))
    cases rt
    · go_wp2_with fail
      go_returns
      have hsz := Hp8.out.size
      exact ⟨rfl, by have := Hp8.out; go_grown⟩
    · obtain rfl := Hbk.out (by trivial)
      go_wp2_with fail
      refine (Hft.out _ (HL.out.below Hb8.out)).mono ?_
      rintro e w9 ⟨rfl, hb9⟩
      clear zg0 c0_0 c0_1 c0_2 c0_3 c0_4 zg1 c1_0 c1_1 c1_2 c1_3 c1_4 zg2 c2_0 c2_1 c2_2 c2_3 c2_4 zg3 c3_0 c3_1 c3_2 c3_3 c3_4
      have hr0 := below_blk hb9 (lt_of_block Hr8_0.out) Hr8_0.out
      have zg0 := lt_of_block hr0
      obtain ⟨c0_0, c0_1, c0_2, c0_3, c0_4⟩ := blk_cells5 hr0
      have Hr9_0 := Lib.hid hr0
      have hr1 := below_blk hb9 (lt_of_block Hr8_1.out) Hr8_1.out
      have zg1 := lt_of_block hr1
      obtain ⟨c1_0, c1_1, c1_2, c1_3, c1_4⟩ := blk_cells5 hr1
      have Hr9_1 := Lib.hid hr1
      have hr2 := below_blk hb9 (lt_of_block Hr8_2.out) Hr8_2.out
      have zg2 := lt_of_block hr2
      obtain ⟨c2_0, c2_1, c2_2, c2_3, c2_4⟩ := blk_cells5 hr2
      have Hr9_2 := Lib.hid hr2
      have hr3 := below_blk hb9 (lt_of_block Hr8_3.out) Hr8_3.out
      have zg3 := lt_of_block hr3
      obtain ⟨c3_0, c3_1, c3_2, c3_3, c3_4⟩ := blk_cells5 hr3
      have Hr9_3 := Lib.hid hr3
      have hb9 := below_nx Hb8.out hb9
      have Hp9 := Lib.hid hb9
      have Hb9 := Lib.hid hb9
      clear hr0 hr1 hr2 hr3
      clear hb9
      go_wp2_with fail
      go_returns
      have hsz := Hp9.out.size
      exact ⟨rfl, by have := Hp9.out; go_grown⟩
set_option maxRecDepth 100000 in
set_option maxHeartbeats 400000 in
theorem walk (a0 : Option Addr) (len cap : Nat) (w : World) (hm : len ≤ maxLen) (hl : len ≤ cap) (hc : len ≤ 1048576 → CodeAt w w.heap.size a0 len) (hL : LW w) :
    Calls Tryd.prog 3 #[.slice a0 len cap] w fun e w' => e = .returned (.bool true) ∧ Below w.heap.size w w' := by
  by_cases hs : len ≤ 1048576
  · exact core a0 len cap hs hl w (hc hs) hL
  · unfold maxLen at hm
    clear hc hL
    go_enter Tryd.func3, Tryd.ntmps3
    go_wp2_with (go_at_call 6; go_in)
    go_ret
    exact ⟨rfl, Below.refl _ _⟩

open Go.ChangeMaps (open_string shut_string)
theorem laidOut : laidOutB Tryd.prog = true := by kernel_rfl
theorem own : ownKnob Tryd.prog.godebug = none := by kernel_rfl
set_option maxRecDepth 100000 in
/-- What the walk gives, for every argument and every world that holds the tables. -/
theorem contract (H : Type) (enc : TypeId × Value → H) (W : World) (base : Nat) (args : Array Value) (ds gs : List (DataW H)) (before : List MemPlace)
    (hval : ∀ (j : Nat) t v, Tryd.f3.params[j]? = some t → args[j]? = some v → Value.okWide Tryd.prog W .any base t v)
    (hW : DataW.Whole enc Tryd.prog Tryd.f3.params.toList Rows.fnDwTextSpec.vars false W args.toList ds gs before) (hL : laidMetH Tryd.prog Rows.fnDwTextRow.laid W) :
    Calls Tryd.prog 3 args W fun e W' => ∃ v, e = .returned v ∧ Rows.fnDwTextSpec.post enc Tryd.prog Tryd.f3 false true false false W args v W' := by
  have hW' := hW
  obtain ⟨p, q, hA0, hV, rfl, hfz, hnd⟩ := hW
  have hA : DataW.TrodAll enc Tryd.prog W 0 (fun _ => true) true Tryd.f3.params.toList args.toList ds p := hA0
  rw [Tryd.params3] at hA hval
  obtain ⟨v0, vs0, d0, ds0, p0, q0, hargs, rfl, rfl, h0, r0⟩ := trodAll_cons hA
  obtain ⟨rfl, rfl, rfl⟩ := trodAll_nil r0
  obtain rfl : args = #[v0] := by cases args; simp_all
  obtain ⟨rfl, rfl⟩ := trodVars_none hV
  obtain ⟨ca, cl, cc, rfl⟩ := okWide_slice Tryd.underlying22 (hval 0 22 v0 rfl rfl)
  have k0 := h0
  have lt0 : ∀ x ∈ p0, x.block < W.heap.size := by obtain ⟨m, hm⟩ := k0; exact DataW.trod_lt m _ _ _ hm
  have ch : (cl ≤ 1048576 → CodeAt W W.heap.size ca cl) ∧ cl ≤ maxLen ∧ cl ≤ cc := by
    obtain ⟨fuel, hf⟩ := h0
    rcases open_ints Tryd.underlying22 Tryd.underlying5 (by kernel_rfl) hf with ⟨hcs, _⟩ | ⟨x, l, c, zs, hcs, _, hl, hm, hz, _, hcell, hwz⟩
    · simp [Value.cells] at hcs
      obtain ⟨rfl, rfl, rfl⟩ := hcs
      exact ⟨fun _ => ⟨by omega, fun h => absurd h (by omega)⟩, Nat.zero_le _, Nat.le_refl _⟩
    · simp [Value.cells] at hcs
      obtain ⟨rfl, rfl, rfl⟩ := hcs
      have hz2 : zs.length = cc := by simpa using hz
      exact ⟨fun hs => code_of hs (by omega) hcell hwz, by omega, hl⟩
  clear hA0
  simp only [List.append_nil] at hW'
  refine (walk ca cl cc W ch.2.1 ch.2.2 ch.1 (laid5 hL)).mono fun e W' ⟨he, hg⟩ => ?_
  subst he
  exact ⟨_, rfl, _, _, _, [], _, [], hW', trodAll_mk1 (shut_bool Tryd.underlying4 _), (trodAll_cons_mk (Below.trod laidOut (by kernel_rfl) (of_decide_eq_true (by kernel_rfl)) k0 hg lt0) trodAll_mk0), rfl, hg.frame _, fun h => by cases h⟩

/-- A world for the witness: what the program's own start lays. -/
noncomputable def laidWorld (os : Os) : World := World.doorLaid Tryd.prog 72 os
theorem laid_met (os : Os) : laidMetH Tryd.prog Rows.fnDwTextRow.laid ((laidWorld os).forCall (fun _ _ => 0) ⟨#[], #[.slice none 0 0], []⟩).memory :=
  laidMetH_of_parts3 (fuel := 8) (laidMet_of_run' 8 (by kernel_rfl) (by kernel_rfl)) (by kernel_rfl) (by kernel_rfl)
theorem reads (os : Os) {H : Type} (enc : TypeId × Value → H) : ∃ places, DataW.whole enc Tryd.prog ((laidWorld os).forCall (fun _ _ => 0) ⟨#[], #[.slice none 0 0], []⟩).memory Tryd.f3.params.toList Rows.fnDwTextSpec.vars false #[Value.slice none 0 0].toList 8 = some ([.nil], [], places) :=
  ⟨[], by kernel_rfl⟩
set_option maxRecDepth 100000 in
theorem lifted (os : Os) (started : os.Started) (H : Type) (enc : TypeId × Value → H) (F : Stop.Interp) :
    ReturnsInHanded {} Tryd.checked os 3 .any ((OpenSpec.ofChange Rows.fnDwTextSpec).preRow enc Tryd.prog Tryd.f3 Rows.fnDwTextRow.domain false Rows.fnDwTextRow.laid) (((OpenSpec.ofChange Rows.fnDwTextSpec).at F).post enc Tryd.prog Tryd.f3 false true false false) := by
  obtain ⟨places, hx⟩ := reads os enc
  refine returnsInHanded_of_row (C := Tryd.checked) (s := OpenSpec.ofChange Rows.fnDwTextSpec) own started (by kernel_rfl) Tryd.func3
    (witness_row_at (enc := enc) (C := Tryd.checked) false (laidWorld os) #[.slice none 0 0] rfl (by kernel_rfl) (by kernel_rfl) (by kernel_rfl)
      (OpenSpec.preRow_of_cond 8 hx (by kernel_rfl) (fun k hk => by cases hk) (by kernel_rfl) (laid_met os))) ?_
  intro W base args ds gs before hval hW _ _ _ hL _ _
  exact contract H enc W base args ds gs before hval hW hL
theorem said : Rows.FnDwTextSaid :=
  OpenClaim.holds_of_cond 3 Tryd.f3 rfl rfl rfl rfl rfl rfl rfl ⟨rfl, rfl, rfl, rfl, rfl⟩ rfl rfl rfl rfl rfl (by kernel_rfl) Tryd.func3 (by kernel_rfl)
    (of_decide_eq_true (by kernel_rfl)) (by unfold Func.isWrapper; first | (rw [if_pos (by decide +kernel)]; kernel_rfl) | (rw [if_neg (by decide +kernel)]; exact ⟨rfl, rfl⟩))
    (fun os started H enc _ F => by rw [OpenClaim.pre_eq_preRow]; exact lifted os started H enc F)
theorem plain (f : FuncId) (fn : Func) (hf : Tryd.pinned.checked.prog.funcNamed "loop.example/g00506/laws.FnDwText" = some f) (hfn : Tryd.pinned.checked.prog.funcs[f]? = some fn) :
    true = Tryd.pinned.checked.prog.looks [] ∧ ∀ (j : Nat) t, fn.params[j]? = some t → Tryd.pinned.checked.prog.wantsStandIn t = false := by
  obtain rfl : f = 3 := Option.some.inj ((show Tryd.prog.funcNamed "loop.example/g00506/laws.FnDwText" = some 3 by kernel_rfl).symm.trans hf) |>.symm
  obtain rfl : fn = Tryd.f3 := (Option.some.inj (Tryd.func3.symm.trans hfn)).symm
  refine ⟨by kernel_rfl, fun j t ht => ?_⟩
  rw [Tryd.params3] at ht
  have hm : t ∈ [22] := by simpa using Array.mem_of_getElem? ht
  have hall : ([22].all fun u => !Tryd.prog.wantsStandIn u) = true := by kernel_rfl
  exact (show Tryd.prog.wantsStandIn t = false by simpa using List.all_eq_true.1 hall t hm)
theorem card : Rows.FnDwTextCardSaid :=
  Claim7.holds_tied_plain_at .later [] _ _ _ _ said (fun _ h => by cases h) (by kernel_rfl) (fun _ h => by cases h) fnDwText_row_tie rfl ⟨rfl, rfl⟩ (by kernel_rfl) rfl plain (by kernel_rfl)
end Go.Proofs.YtggmcahglcnleaaDoor.fnDwText
