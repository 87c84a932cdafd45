/- IsValidDOmega, of the program and of its model. -/
import Derived.Test.YtbohbhhgmglcdaaDwX
import Derived.Test.YtbohbhhgmglcdaaDwE
namespace Go.Proofs.Ytbohbhhgmglcdaa
open Go.RowKit
attribute [local irreducible] World.cell?
def okD (x : Dw) : Bool := decide x.ok
theorem okD_true {x : Dw} : okD x = true ↔ x.ok := by simp [okD]
theorem okD_false {x : Dw} : okD x = false ↔ ¬ x.ok := by simp [okD]
theorem okD_self (x : Dw) : okD x = (newB x.n x.e && eqDB (newV x.n x.e) x) := by
  rw [Bool.eq_iff_iff, Bool.and_eq_true, okD_true]
  refine ⟨fun h => ⟨(newV_self h).1, eqDB_iff.2 (newV_self h).2⟩, ?_⟩
  rintro ⟨h1, h2⟩
  have := newV_ok h1
  rw [eqDB_iff.1 h2] at this
  exact this
theorem okD_parts (x : Dw) : okD x = (okB x.n && (decide (0 ≤ x.e ∧ x.e ≤ 60) && (!divB x.n || decide (x.e = 0)))) := by
  rw [Bool.eq_iff_iff, okD_true]
  simp only [Bool.and_eq_true, Bool.or_eq_true, Bool.not_eq_true', decide_eq_true_eq, okB_true, Dw.ok]
  constructor
  · rintro ⟨h1, h2, h3, h4⟩; exact ⟨h1, ⟨h2, h3⟩, h4.symm⟩
  · rintro ⟨h1, ⟨h2, h3⟩, h4⟩; exact ⟨h1, h2, h3, h4.symm⟩
set_option maxRecDepth 100000 in
set_option maxHeartbeats 1600000 in
theorem ivalidD (x : Dw) (w : World) (h0 : -9223372036854775808 ≤ x.e) (h1 : x.e ≤ 9223372036854775807) :
    Calls Try.prog 54 #[(.agg #[.int .i64 x.n.a, .int .i64 x.n.b, .int .i64 x.n.c, .int .i64 x.n.d, .int .i64 x.e])] w fun e w' => e = .returned (.bool (okD x)) ∧ Below w.heap.size w w' := by
  have Hn := Lib.hid (fun w => inew_any x.n x.e w h0 h1)
  rw [okD_self]
  have Heq := eqD (newV x.n x.e) x
  have Hr0 := Lib.hid (heap_alloc_new w (.cells #[.int .i64 x.n.a, .int .i64 x.n.b, .int .i64 x.n.c, .int .i64 x.n.d, .int .i64 x.e] 33))
  generalize eqDB (newV x.n x.e) x = b at *
  generalize newV x.n x.e = r at *
  generalize newB x.n x.e = t at *
  go_enter Try.func54, Try.ntmps54
  go_wp2_with fail
  refine (Hn.out _).mono ?_
  rintro e w1 ⟨rfl, hb1⟩
  have hr0 := below_blk hb1 (by simp) Hr0.out
  have zg1 := lt_of_block hr0
  obtain ⟨c0, c1, c2, c3, c4⟩ := blk_cells5 hr0
  have Hb1 := Lib.hid (below_up (B := w.heap.size) (w := w) (by go_grown) hb1 (by simp))
  clear hb1 hr0
  cases t
  · clear Heq
    go_wp2_with fail
    go_returns
    exact ⟨rfl, by have := Hb1.out; go_grown⟩
  · go_wp2_with fail
    go_returns
    exact ⟨rfl, by have := Hb1.out; go_grown⟩
set_option maxRecDepth 100000 in
set_option maxHeartbeats 1600000 in
theorem svalidD (x : Dw) (w : World) :
    Calls Try.prog 64 #[(.agg #[.int .i64 x.n.a, .int .i64 x.n.b, .int .i64 x.n.c, .int .i64 x.n.d, .int .i64 x.e])] w fun e w' => e = .returned (.bool (okD x)) ∧ Below w.heap.size w w' := by
  have Hd := Lib.hid (sdiv_any x.n)
  have Hv := Lib.hid (fun w => svalid_any x.n (okB x.n) w rfl)
  have Hi := Lib.hid (fun w => lin_any x.e 0 60 (decide (0 ≤ x.e ∧ x.e ≤ 60)) w rfl)
  rw [okD_parts]
  have Hr0 := Lib.hid (heap_alloc_new w (.cells #[.int .i64 x.n.a, .int .i64 x.n.b, .int .i64 x.n.c, .int .i64 x.n.d, .int .i64 x.e] 33))
  generalize divV x.n = q at *
  generalize divB x.n = t at *
  generalize okB x.n = u at *
  generalize decide (0 ≤ x.e ∧ x.e ≤ 60) = v at *
  go_enter Try.func64, Try.ntmps64
  go_wp2_with fail
  refine (Hd.out _).mono ?_
  rintro e w1 ⟨rfl, hb1⟩
  have hr1 := below_blk hb1 (by simp) Hr0.out
  have zg1 := lt_of_block hr1
  have Hr1 := Lib.hid (alloc_blk (.cells #[.int .i64 q.a, .int .i64 q.b, .int .i64 q.c, .int .i64 q.d] 31) hr1)
  obtain ⟨c0, c1, c2, c3, c4⟩ := blk_cells5 hr1
  have hb1' := below_up (B := w.heap.size) (w := w) (by go_grown) hb1 (by simp)
  have Hb1 := Lib.hid (hb1'.alloc hb1'.size (.cells #[.int .i64 q.a, .int .i64 q.b, .int .i64 q.c, .int .i64 q.d] 31))
  clear hb1 hr1 hb1'
  go_wp2_with fail
  refine (Hv.out _).mono ?_
  rintro e w2 ⟨rfl, hb2⟩
  have hr2 := below_blk hb2 (lt_of_block Hr1.out) Hr1.out
  have zg2 := lt_of_block hr2
  clear c0 c1 c2 c3 c4 zg1
  obtain ⟨c0, c1, c2, c3, c4⟩ := blk_cells5 hr2
  have Hb2 := Lib.hid (below_nx Hb1.out hb2)
  clear hb2 hr2
  cases u
  · go_wp2_with fail
    go_returns
    exact ⟨rfl, by have := Hb2.out; go_grown⟩
  · go_wp2_with fail
    refine (Hi.out _).mono ?_
    rintro e w3 ⟨rfl, rfl⟩
    cases v
    · go_wp2_with fail
      go_returns
      exact ⟨rfl, by have := Hb2.out; go_grown⟩
    · cases t
      · go_wp2_with fail
        go_returns
        exact ⟨rfl, by have := Hb2.out; go_grown⟩
      · go_wp2_with fail
        go_returns
        exact ⟨rfl, by have := Hb2.out; go_grown⟩
end Go.Proofs.Ytbohbhhgmglcdaa
