/- BaseB13: several of our texts in one: DsR DwY Isq ARow. -/
import Derived.Test.YtckfklpgnneodaaGreatBaseB02
import Derived.Test.YtckfklpgnneodaaGreatDwX
import Derived.Test.YtckfklpgnneodaaGreatBaseB15
namespace Go.Proofs.YtckfklpgnneodaaGreat
open Go.RowKit
/-- The cells of a fraction. -/
def fl (x : Dw) : List Value := [.int .i64 x.n.a, .int .i64 x.n.b, .int .i64 x.n.c, .int .i64 x.n.d, .int .i64 x.e]
/-- The cells of a row. -/
def flat : List Dw → List Value
  | [] => []
  | x :: l => fl x ++ flat l
theorem flat_len : ∀ l : List Dw, (flat l).length = l.length * 5
  | [] => rfl
  | x :: l => by rw [flat, List.length_append, flat_len l, List.length_cons]; simp only [fl, List.length_cons, List.length_nil]; omega
theorem flat_app : ∀ l m : List Dw, flat (l ++ m) = flat l ++ flat m
  | [], m => rfl
  | x :: l, m => by rw [List.cons_append, flat, flat, flat_app l m, List.append_assoc]
theorem flat_at : ∀ {l : List Dw} {j : Nat} {x : Dw}, l[j]? = some x → ∀ k, k < 5 → (flat l)[j * 5 + k]? = (fl x)[k]?
  | [], j, x, h, k, hk => by simp at h
  | y :: l, 0, x, h, k, hk => by
    obtain rfl : y = x := by simpa using h
    rw [flat, List.getElem?_append_left (by simp [fl]; omega)]
    simp
  | y :: l, j + 1, x, h, k, hk => by
    rw [flat, List.getElem?_append_right (by simp [fl]; omega)]
    rw [show (j + 1) * 5 + k - (fl y).length = j * 5 + k by simp [fl]; omega]
    exact flat_at (by simpa using h) k hk
/-- Five cells written. -/
def put5 (l : List Value) (o : Nat) (y : Dw) : List Value := ((((l.set o (.int .i64 y.n.a)).set (o + 1) (.int .i64 y.n.b)).set (o + 2) (.int .i64 y.n.c)).set (o + 3) (.int .i64 y.n.d)).set (o + 4) (.int .i64 y.e)
theorem put5_right (l m : List Value) (o : Nat) (y : Dw) (h : l.length ≤ o) : put5 (l ++ m) o y = l ++ put5 m (o - l.length) y := by
  unfold put5
  rw [List.set_append_right _ _ h, List.set_append_right _ _ (by omega), List.set_append_right _ _ (by omega), List.set_append_right _ _ (by omega), List.set_append_right _ _ (by omega)]
  rw [show o + 1 - l.length = o - l.length + 1 by omega, show o + 2 - l.length = o - l.length + 2 by omega, show o + 3 - l.length = o - l.length + 3 by omega, show o + 4 - l.length = o - l.length + 4 by omega]
theorem flat_set : ∀ (l : List Dw) (j : Nat) (y : Dw), j < l.length → put5 (flat l) (j * 5) y = flat (l.set j y)
  | [], j, y, h => by simp at h
  | x :: l, 0, y, h => by
    simp [put5, flat, fl]
  | x :: l, j + 1, y, h => by
    rw [flat, put5_right _ _ _ _ (by simp [fl]; omega), show (j + 1) * 5 - (fl x).length = j * 5 by simp [fl]; omega, flat_set l j y (by simpa using h)]
    rfl
/-- A row at the head of block g. -/
def DRow (w : World) (g : Nat) (l : List Dw) : Prop := ∃ cs : Array Value, w.heap[g]? = some (.cells cs 83 (0, 0)) ∧ cs.toList.take (l.length * 5) = flat l
theorem DRow.at {w : World} {g : Nat} {l : List Dw} (h : DRow w g l) {j : Nat} {x : Dw} (hx : l[j]? = some x) (k : Nat) (hk : k < 5) : ∃ v, (fl x)[k]? = some v ∧ w.cell? ⟨g, j * 5 + k, none⟩ = some v := by
  obtain ⟨cs, h1, h2⟩ := h
  have hj : j < l.length := by
    rcases Nat.lt_or_ge j l.length with h' | h'
    · exact h'
    · rw [List.getElem?_eq_none h'] at hx; cases hx
  have e := flat_at hx k hk
  have hv : ∃ v, (fl x)[k]? = some v := ⟨(fl x)[k]'(by simp [fl]; omega), List.getElem?_eq_getElem _⟩
  obtain ⟨v, hv⟩ := hv
  refine ⟨v, hv, cell_at h1 _ _ ?_⟩
  rw [← h2, List.getElem?_take, if_pos (by omega), hv] at e
  rw [← Array.getElem?_toList]; exact e
theorem DRow.cells {w : World} {g : Nat} {l : List Dw} (h : DRow w g l) {j : Nat} {x : Dw} (hx : l[j]? = some x) :
    w.cell? ⟨g, j * 5, none⟩ = some (.int .i64 x.n.a) ∧ w.cell? ⟨g, j * 5 + 1, none⟩ = some (.int .i64 x.n.b) ∧ w.cell? ⟨g, j * 5 + 2, none⟩ = some (.int .i64 x.n.c) ∧ w.cell? ⟨g, j * 5 + 3, none⟩ = some (.int .i64 x.n.d) ∧ w.cell? ⟨g, j * 5 + 4, none⟩ = some (.int .i64 x.e) := by
  obtain ⟨_, h0, c0⟩ := h.at hx 0 (by omega)
  obtain ⟨_, h1, c1⟩ := h.at hx 1 (by omega)
  obtain ⟨_, h2, c2⟩ := h.at hx 2 (by omega)
  obtain ⟨_, h3, c3⟩ := h.at hx 3 (by omega)
  obtain ⟨_, h4, c4⟩ := h.at hx 4 (by omega)
  cases h0; cases h1; cases h2; cases h3; cases h4
  exact ⟨c0, c1, c2, c3, c4⟩
theorem DRow.free {w : World} {g : Nat} {l : List Dw} (h : DRow w g l) (o : Nat) : w.frozen? ⟨g, o, none⟩ = false := by obtain ⟨cs, h1, _⟩ := h; exact free_at h1 o
theorem DRow.lt {w : World} {g : Nat} {l : List Dw} (h : DRow w g l) : g < w.heap.size := by obtain ⟨cs, h1, _⟩ := h; exact lt_of_block h1
theorem DRow.block {w w' : World} {g : Nat} {l : List Dw} (h : DRow w g l) (hb : w'.heap[g]? = w.heap[g]?) : DRow w' g l := by obtain ⟨cs, h1, h2⟩ := h; exact ⟨cs, hb.trans h1, h2⟩
theorem DRow.below {w w' : World} {g B : Nat} {l : List Dw} (h : DRow w g l) (hb : Below B w w') (hB : g < B) : DRow w' g l := h.block (hb.block g hB)
theorem DRow.alloc {w : World} {g : Nat} {l : List Dw} (h : DRow w g l) (o : Obj) : DRow (w.alloc o) g l := h.block (Below.heap_alloc _ _ _ h.lt)
theorem DRow.own {w w' : World} {g B : Nat} {l : List Dw} (h : DRow w g l) (hb : Own B w w') (hB : g ≠ B) : DRow w' g l :=
  h.block (hb.block g h.lt (by intro e; injection e with e; exact hB e))
theorem DRow.put {w : World} {g : Nat} {l : List Dw} (h : DRow w g l) (j : Nat) (hj : j < l.length) (y : Dw) :
    DRow (((((w.setCell ⟨g, j * 5, none⟩ (.int .i64 y.n.a)).setCell ⟨g, j * 5 + 1, none⟩ (.int .i64 y.n.b)).setCell ⟨g, j * 5 + 2, none⟩ (.int .i64 y.n.c)).setCell ⟨g, j * 5 + 3, none⟩ (.int .i64 y.n.d)).setCell ⟨g, j * 5 + 4, none⟩ (.int .i64 y.e)) g (l.set j y) := by
  obtain ⟨cs, h1, h2⟩ := h
  refine ⟨_, heap_set (heap_set (heap_set (heap_set (heap_set h1 _ _) _ _) _ _) _ _) _ _, ?_⟩
  rw [← flat_set l j y hj, ← h2, List.length_set]
  simp only [put5, Array.toList_setIfInBounds, List.take_set]
/-- The row with one of its integers written. -/
theorem DRow.put1 {w : World} {g : Nat} {l l' : List Dw} (h : DRow w g l) (o : Nat) (v : Value) (hl : l'.length = l.length) (hs : (flat l).set o v = flat l') : DRow (w.setCell ⟨g, o, none⟩ v) g l' := by
  obtain ⟨cs, h1, h2⟩ := h
  refine ⟨_, heap_set h1 _ _, ?_⟩
  rw [hl, ← hs, ← h2, Array.toList_setIfInBounds, List.take_set]
/-- A slice of fractions whose row, if it has one, lies at B or behind. -/
def DSl (w : World) (B : Nat) (v : Value) (l : List Dw) : Prop :=
  ∃ a cap, v = .slice a l.length cap ∧ l.length ≤ cap ∧ (0 < l.length → ∃ g, a = some ⟨g, 0, none⟩ ∧ B ≤ g ∧ DRow w g l)
theorem DSl.block {w w' : World} {B : Nat} {v : Value} {l : List Dw} (h : DSl w B v l) (hb : ∀ g, B ≤ g → g < w.heap.size → w'.heap[g]? = w.heap[g]?) : DSl w' B v l := by
  obtain ⟨a, cap, h1, h2, h3⟩ := h
  exact ⟨a, cap, h1, h2, fun hl => by obtain ⟨g, e, hB, hr⟩ := h3 hl; exact ⟨g, e, hB, hr.block (hb g hB hr.lt)⟩⟩
theorem DSl.below {w w' : World} {B : Nat} {v : Value} {l : List Dw} (h : DSl w B v l) (hb : Below w.heap.size w w') : DSl w' B v l := h.block fun g _ hg => hb.block g hg
theorem DSl.mono {w : World} {B C : Nat} {v : Value} {l : List Dw} (h : DSl w B v l) (hc : C ≤ B) : DSl w C v l := by
  obtain ⟨a, cap, h1, h2, h3⟩ := h
  exact ⟨a, cap, h1, h2, fun hl => by obtain ⟨g, e, hB, hr⟩ := h3 hl; exact ⟨g, e, Nat.le_trans hc hB, hr⟩⟩
theorem DSl.of_own {w : World} {B : Nat} {v : Value} {l : List Dw} (h : w.ownsRow B 83 5 v l.length (flat l)) : DSl w B v l := by
  rcases h.2 with ⟨rfl, h2⟩ | ⟨g, cap, cur, hv, hb, hg, hn, hc, hs, ht⟩
  · exact ⟨none, 0, by rw [h2], by omega, fun h => absurd h (by omega)⟩
  · exact ⟨_, cap, hv, hn, fun _ => ⟨g, rfl, hb, cur, hg, ht⟩⟩
theorem DSl.mk {w : World} {B g n cap : Nat} {l : List Dw} (hn : n = l.length) (hc : n ≤ cap) (hB : B ≤ g) (hr : DRow w g l) : DSl w B (.slice (some ⟨g, 0, none⟩) n cap) l := by
  subst hn; exact ⟨_, _, rfl, hc, fun _ => ⟨g, rfl, hB, hr⟩⟩
theorem DSl.nil {w : World} {B cap : Nat} {a : Option Addr} : DSl w B (.slice a 0 cap) [] := ⟨_, _, rfl, Nat.zero_le _, fun h => absurd h (by simp)⟩
end Go.Proofs.YtckfklpgnneodaaGreat
namespace Go.Proofs.YtckfklpgnneodaaGreat
open Go.RowKit
attribute [local irreducible] World.cell?
def okD (x : Dw) : Bool := decide x.ok
theorem okD_true {x : Dw} : okD x = true ↔ x.ok := by simp [okD]
theorem okD_false {x : Dw} : okD x = false ↔ ¬ x.ok := by simp [okD]
theorem okD_self (x : Dw) : okD x = (newB x.n x.e && eqDB (newV x.n x.e) x) := by
  rw [Bool.eq_iff_iff, Bool.and_eq_true, okD_true]
  refine ⟨fun h => ⟨(newV_self h).1, eqDB_iff.2 (newV_self h).2⟩, ?_⟩
  rintro ⟨h1, h2⟩
  have := newV_ok h1
  rw [eqDB_iff.1 h2] at this
  exact this
theorem okD_parts (x : Dw) : okD x = (okB x.n && (decide (0 ≤ x.e ∧ x.e ≤ 60) && (!divB x.n || decide (x.e = 0)))) := by
  rw [Bool.eq_iff_iff, okD_true]
  simp only [Bool.and_eq_true, Bool.or_eq_true, Bool.not_eq_true', decide_eq_true_eq, okB_true, Dw.ok]
  constructor
  · rintro ⟨h1, h2, h3, h4⟩; exact ⟨h1, ⟨h2, h3⟩, h4.symm⟩
  · rintro ⟨h1, ⟨h2, h3⟩, h4⟩; exact ⟨h1, h2, h3, h4.symm⟩
set_option maxRecDepth 100000 in
set_option maxHeartbeats 1600000 in
theorem ivalidD (x : Dw) (w : World) (h0 : -9223372036854775808 ≤ x.e) (h1 : x.e ≤ 9223372036854775807) :
    Calls Tryz.prog 80 #[(.agg #[.int .i64 x.n.a, .int .i64 x.n.b, .int .i64 x.n.c, .int .i64 x.n.d, .int .i64 x.e])] w fun e w' => e = .returned (.bool (okD x)) ∧ Below w.heap.size w w' := by
  have Hn := Lib.hid (fun w => inew_any x.n x.e w h0 h1)
  rw [okD_self]
  have Heq := eqD (newV x.n x.e) x
  have Hr0 := Lib.hid (heap_alloc_new w (.cells #[.int .i64 x.n.a, .int .i64 x.n.b, .int .i64 x.n.c, .int .i64 x.n.d, .int .i64 x.e] 83))
  generalize eqDB (newV x.n x.e) x = b at *
  generalize newV x.n x.e = r at *
  generalize newB x.n x.e = t at *
  go_enter Tryz.func80, Tryz.ntmps80
  go_wp2_with fail
  refine (Hn.out _).mono ?_
  rintro e w1 ⟨rfl, hb1⟩
  have hr0 := below_blk hb1 (by simp) Hr0.out
  have zg1 := lt_of_block hr0
  obtain ⟨c0, c1, c2, c3, c4⟩ := blk_cells5 hr0
  have Hb1 := Lib.hid (below_up (B := w.heap.size) (w := w) (by go_grown) hb1 (by simp))
  clear hb1 hr0
  cases t
  · clear Heq
    go_wp2_with fail
    go_returns
    exact ⟨rfl, by have := Hb1.out; go_grown⟩
  · go_wp2_with fail
    go_returns
    exact ⟨rfl, by have := Hb1.out; go_grown⟩
set_option maxRecDepth 100000 in
set_option maxHeartbeats 1600000 in
theorem svalidD (x : Dw) (w : World) :
    Calls Tryz.prog 73 #[(.agg #[.int .i64 x.n.a, .int .i64 x.n.b, .int .i64 x.n.c, .int .i64 x.n.d, .int .i64 x.e])] w fun e w' => e = .returned (.bool (okD x)) ∧ Below w.heap.size w w' := by
  have Hd := Lib.hid (sdiv_any x.n)
  have Hv := Lib.hid (fun w => svalid_any x.n (okB x.n) w rfl)
  have Hi := Lib.hid (fun w => lin_any x.e 0 60 (decide (0 ≤ x.e ∧ x.e ≤ 60)) w rfl)
  rw [okD_parts]
  have Hr0 := Lib.hid (heap_alloc_new w (.cells #[.int .i64 x.n.a, .int .i64 x.n.b, .int .i64 x.n.c, .int .i64 x.n.d, .int .i64 x.e] 83))
  generalize divV x.n = q at *
  generalize divB x.n = t at *
  generalize okB x.n = u at *
  generalize decide (0 ≤ x.e ∧ x.e ≤ 60) = v at *
  go_enter Tryz.func73, Tryz.ntmps73
  go_wp2_with fail
  refine (Hd.out _).mono ?_
  rintro e w1 ⟨rfl, hb1⟩
  have hr1 := below_blk hb1 (by simp) Hr0.out
  have zg1 := lt_of_block hr1
  have Hr1 := Lib.hid (alloc_blk (.cells #[.int .i64 q.a, .int .i64 q.b, .int .i64 q.c, .int .i64 q.d] 81) hr1)
  obtain ⟨c0, c1, c2, c3, c4⟩ := blk_cells5 hr1
  have hb1' := below_up (B := w.heap.size) (w := w) (by go_grown) hb1 (by simp)
  have Hb1 := Lib.hid (hb1'.alloc hb1'.size (.cells #[.int .i64 q.a, .int .i64 q.b, .int .i64 q.c, .int .i64 q.d] 81))
  clear hb1 hr1 hb1'
  go_wp2_with fail
  refine (Hv.out _).mono ?_
  rintro e w2 ⟨rfl, hb2⟩
  have hr2 := below_blk hb2 (lt_of_block Hr1.out) Hr1.out
  have zg2 := lt_of_block hr2
  clear c0 c1 c2 c3 c4 zg1
  obtain ⟨c0, c1, c2, c3, c4⟩ := blk_cells5 hr2
  have Hb2 := Lib.hid (below_nx Hb1.out hb2)
  clear hb2 hr2
  cases u
  · go_wp2_with fail
    go_returns
    exact ⟨rfl, by have := Hb2.out; go_grown⟩
  · go_wp2_with fail
    refine (Hi.out _).mono ?_
    rintro e w3 ⟨rfl, rfl⟩
    cases v
    · go_wp2_with fail
      go_returns
      exact ⟨rfl, by have := Hb2.out; go_grown⟩
    · cases t
      · go_wp2_with fail
        go_returns
        exact ⟨rfl, by have := Hb2.out; go_grown⟩
      · go_wp2_with fail
        go_returns
        exact ⟨rfl, by have := Hb2.out; go_grown⟩
end Go.Proofs.YtckfklpgnneodaaGreat
namespace Go.Proofs.YtckfklpgnneodaaGreat
open Go.RowKit
attribute [local irreducible] World.cell?
set_option maxRecDepth 100000 in
set_option maxHeartbeats 400000 in
theorem iisq_yes (n : Int) (w : World) (h : 1 ≤ n ∧ n ≤ 4) :
    Calls Tryz.prog 33 #[.int .i64 n] w fun e w' => e = .returned (.bool true) ∧ w = w' := by
  obtain ⟨h1, h2⟩ := h
  go_enter Tryz.func33, Tryz.ntmps33
  go_wp2_with fail
  go_ret
  exact ⟨rfl, rfl⟩
set_option maxRecDepth 100000 in
set_option maxHeartbeats 400000 in
theorem iisq_no (n : Int) (w : World) (h : ¬ (1 ≤ n ∧ n ≤ 4)) (_ : -9223372036854775808 ≤ n) (_ : n ≤ 9223372036854775807) :
    Calls Tryz.prog 33 #[.int .i64 n] w fun e w' => e = .returned (.bool false) ∧ w = w' := by
  by_cases h1 : n < 1
  · clear h
    go_enter Tryz.func33, Tryz.ntmps33
    go_wp2_with fail
    go_ret
    exact ⟨rfl, rfl⟩
  · have h4 : 4 < n := by omega
    clear h
    go_enter Tryz.func33, Tryz.ntmps33
    go_wp2_with fail
    go_ret
    exact ⟨by first | rfl | (simp; omega), rfl⟩
end Go.Proofs.YtckfklpgnneodaaGreat
namespace Go.Proofs.YtckfklpgnneodaaGreat
open Go.RowKit
theorem flatI : ∀ l : List Int, intE.flat l = l.map (Value.int .i64)
  | [] => rfl
  | x :: l => by rw [Enc.flat_cons, flatI l]; rfl
/-- The block g, of whatever type, begins with these integers. -/
def AR (w : World) (g : Nat) (l : List Int) : Prop := ∃ (cs : Array Value) (ty : TypeId), w.heap[g]? = some (.cells cs ty (0, 0)) ∧ cs.toList.take l.length = l.map (Value.int .i64)
theorem AR.lt {w : World} {g : Nat} {l : List Int} (h : AR w g l) : g < w.heap.size := by obtain ⟨cs, ty, h1, _⟩ := h; exact lt_of_block h1
theorem AR.block {w w' : World} {g : Nat} {l : List Int} (h : AR w g l) (hb : w'.heap[g]? = w.heap[g]?) : AR w' g l := by obtain ⟨cs, ty, h1, h2⟩ := h; exact ⟨cs, ty, hb.trans h1, h2⟩
theorem AR.cell {w : World} {g : Nat} {l : List Int} (h : AR w g l) {j : Nat} {x : Int} (hx : l[j]? = some x) : w.cell? ⟨g, j, none⟩ = some (.int .i64 x) := by
  obtain ⟨cs, ty, h1, h2⟩ := h
  have hj : j < l.length := by
    rcases Nat.lt_or_ge j l.length with h' | h'
    · exact h'
    · rw [List.getElem?_eq_none h'] at hx; cases hx
  refine cell_at h1 _ _ ?_
  have e : (cs.toList.take l.length)[j]? = (l.map (Value.int .i64))[j]? := by rw [h2]
  rw [List.getElem?_take, if_pos hj, List.getElem?_map, hx] at e
  rw [← Array.getElem?_toList]; exact e
theorem AR.of_row {w : World} {g : Nat} {l : List Int} (h : intE.Row w g l) : AR w g l := by
  obtain ⟨cs, h1, h2⟩ := h
  refine ⟨cs, _, h1, ?_⟩
  rw [show l.length * intE.n = l.length from Nat.mul_one _] at h2
  rw [h2, flatI]
end Go.Proofs.YtckfklpgnneodaaGreat
