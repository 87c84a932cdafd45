/- BaseB05: several of our texts in one: DsR DwX DwY DwU ARow ApS. -/
import Derived.Test.YtmpafidkpangeaaGreatBaseB25
import Derived.Test.YtmpafidkpangeaaGreatZwB
import Derived.Deep.AppendLies
namespace Go.Proofs.YtmpafidkpangeaaGreat
open Go.RowKit
/-- The cells of a fraction. -/
def fl (x : Dw) : List Value := [.int .i64 x.n.a, .int .i64 x.n.b, .int .i64 x.n.c, .int .i64 x.n.d, .int .i64 x.e]
/-- The cells of a row. -/
def flat : List Dw → List Value
  | [] => []
  | x :: l => fl x ++ flat l
theorem flat_len : ∀ l : List Dw, (flat l).length = l.length * 5
  | [] => rfl
  | x :: l => by rw [flat, List.length_append, flat_len l, List.length_cons]; simp only [fl, List.length_cons, List.length_nil]; omega
theorem flat_app : ∀ l m : List Dw, flat (l ++ m) = flat l ++ flat m
  | [], m => rfl
  | x :: l, m => by rw [List.cons_append, flat, flat, flat_app l m, List.append_assoc]
theorem flat_at : ∀ {l : List Dw} {j : Nat} {x : Dw}, l[j]? = some x → ∀ k, k < 5 → (flat l)[j * 5 + k]? = (fl x)[k]?
  | [], j, x, h, k, hk => by simp at h
  | y :: l, 0, x, h, k, hk => by
    obtain rfl : y = x := by simpa using h
    rw [flat, List.getElem?_append_left (by simp [fl]; omega)]
    simp
  | y :: l, j + 1, x, h, k, hk => by
    rw [flat, List.getElem?_append_right (by simp [fl]; omega)]
    rw [show (j + 1) * 5 + k - (fl y).length = j * 5 + k by simp [fl]; omega]
    exact flat_at (by simpa using h) k hk
/-- Five cells written. -/
def put5 (l : List Value) (o : Nat) (y : Dw) : List Value := ((((l.set o (.int .i64 y.n.a)).set (o + 1) (.int .i64 y.n.b)).set (o + 2) (.int .i64 y.n.c)).set (o + 3) (.int .i64 y.n.d)).set (o + 4) (.int .i64 y.e)
theorem put5_right (l m : List Value) (o : Nat) (y : Dw) (h : l.length ≤ o) : put5 (l ++ m) o y = l ++ put5 m (o - l.length) y := by
  unfold put5
  rw [List.set_append_right _ _ h, List.set_append_right _ _ (by omega), List.set_append_right _ _ (by omega), List.set_append_right _ _ (by omega), List.set_append_right _ _ (by omega)]
  rw [show o + 1 - l.length = o - l.length + 1 by omega, show o + 2 - l.length = o - l.length + 2 by omega, show o + 3 - l.length = o - l.length + 3 by omega, show o + 4 - l.length = o - l.length + 4 by omega]
theorem flat_set : ∀ (l : List Dw) (j : Nat) (y : Dw), j < l.length → put5 (flat l) (j * 5) y = flat (l.set j y)
  | [], j, y, h => by simp at h
  | x :: l, 0, y, h => by
    simp [put5, flat, fl]
  | x :: l, j + 1, y, h => by
    rw [flat, put5_right _ _ _ _ (by simp [fl]; omega), show (j + 1) * 5 - (fl x).length = j * 5 by simp [fl]; omega, flat_set l j y (by simpa using h)]
    rfl
/-- A row at the head of block g. -/
def DRow (w : World) (g : Nat) (l : List Dw) : Prop := ∃ cs : Array Value, w.heap[g]? = some (.cells cs 84 (0, 0)) ∧ cs.toList.take (l.length * 5) = flat l
theorem DRow.at {w : World} {g : Nat} {l : List Dw} (h : DRow w g l) {j : Nat} {x : Dw} (hx : l[j]? = some x) (k : Nat) (hk : k < 5) : ∃ v, (fl x)[k]? = some v ∧ w.cell? ⟨g, j * 5 + k, none⟩ = some v := by
  obtain ⟨cs, h1, h2⟩ := h
  have hj : j < l.length := by
    rcases Nat.lt_or_ge j l.length with h' | h'
    · exact h'
    · rw [List.getElem?_eq_none h'] at hx; cases hx
  have e := flat_at hx k hk
  have hv : ∃ v, (fl x)[k]? = some v := ⟨(fl x)[k]'(by simp [fl]; omega), List.getElem?_eq_getElem _⟩
  obtain ⟨v, hv⟩ := hv
  refine ⟨v, hv, cell_at h1 _ _ ?_⟩
  rw [← h2, List.getElem?_take, if_pos (by omega), hv] at e
  rw [← Array.getElem?_toList]; exact e
theorem DRow.cells {w : World} {g : Nat} {l : List Dw} (h : DRow w g l) {j : Nat} {x : Dw} (hx : l[j]? = some x) :
    w.cell? ⟨g, j * 5, none⟩ = some (.int .i64 x.n.a) ∧ w.cell? ⟨g, j * 5 + 1, none⟩ = some (.int .i64 x.n.b) ∧ w.cell? ⟨g, j * 5 + 2, none⟩ = some (.int .i64 x.n.c) ∧ w.cell? ⟨g, j * 5 + 3, none⟩ = some (.int .i64 x.n.d) ∧ w.cell? ⟨g, j * 5 + 4, none⟩ = some (.int .i64 x.e) := by
  obtain ⟨_, h0, c0⟩ := h.at hx 0 (by omega)
  obtain ⟨_, h1, c1⟩ := h.at hx 1 (by omega)
  obtain ⟨_, h2, c2⟩ := h.at hx 2 (by omega)
  obtain ⟨_, h3, c3⟩ := h.at hx 3 (by omega)
  obtain ⟨_, h4, c4⟩ := h.at hx 4 (by omega)
  cases h0; cases h1; cases h2; cases h3; cases h4
  exact ⟨c0, c1, c2, c3, c4⟩
theorem DRow.free {w : World} {g : Nat} {l : List Dw} (h : DRow w g l) (o : Nat) : w.frozen? ⟨g, o, none⟩ = false := by obtain ⟨cs, h1, _⟩ := h; exact free_at h1 o
theorem DRow.lt {w : World} {g : Nat} {l : List Dw} (h : DRow w g l) : g < w.heap.size := by obtain ⟨cs, h1, _⟩ := h; exact lt_of_block h1
theorem DRow.block {w w' : World} {g : Nat} {l : List Dw} (h : DRow w g l) (hb : w'.heap[g]? = w.heap[g]?) : DRow w' g l := by obtain ⟨cs, h1, h2⟩ := h; exact ⟨cs, hb.trans h1, h2⟩
theorem DRow.below {w w' : World} {g B : Nat} {l : List Dw} (h : DRow w g l) (hb : Below B w w') (hB : g < B) : DRow w' g l := h.block (hb.block g hB)
theorem DRow.alloc {w : World} {g : Nat} {l : List Dw} (h : DRow w g l) (o : Obj) : DRow (w.alloc o) g l := h.block (Below.heap_alloc _ _ _ h.lt)
theorem DRow.own {w w' : World} {g B : Nat} {l : List Dw} (h : DRow w g l) (hb : Own B w w') (hB : g ≠ B) : DRow w' g l :=
  h.block (hb.block g h.lt (by intro e; injection e with e; exact hB e))
theorem DRow.put {w : World} {g : Nat} {l : List Dw} (h : DRow w g l) (j : Nat) (hj : j < l.length) (y : Dw) :
    DRow (((((w.setCell ⟨g, j * 5, none⟩ (.int .i64 y.n.a)).setCell ⟨g, j * 5 + 1, none⟩ (.int .i64 y.n.b)).setCell ⟨g, j * 5 + 2, none⟩ (.int .i64 y.n.c)).setCell ⟨g, j * 5 + 3, none⟩ (.int .i64 y.n.d)).setCell ⟨g, j * 5 + 4, none⟩ (.int .i64 y.e)) g (l.set j y) := by
  obtain ⟨cs, h1, h2⟩ := h
  refine ⟨_, heap_set (heap_set (heap_set (heap_set (heap_set h1 _ _) _ _) _ _) _ _) _ _, ?_⟩
  rw [← flat_set l j y hj, ← h2, List.length_set]
  simp only [put5, Array.toList_setIfInBounds, List.take_set]
/-- The row with one of its integers written. -/
theorem DRow.put1 {w : World} {g : Nat} {l l' : List Dw} (h : DRow w g l) (o : Nat) (v : Value) (hl : l'.length = l.length) (hs : (flat l).set o v = flat l') : DRow (w.setCell ⟨g, o, none⟩ v) g l' := by
  obtain ⟨cs, h1, h2⟩ := h
  refine ⟨_, heap_set h1 _ _, ?_⟩
  rw [hl, ← hs, ← h2, Array.toList_setIfInBounds, List.take_set]
/-- A slice of fractions whose row, if it has one, lies at B or behind. -/
def DSl (w : World) (B : Nat) (v : Value) (l : List Dw) : Prop :=
  ∃ a cap, v = .slice a l.length cap ∧ l.length ≤ cap ∧ (0 < l.length → ∃ g, a = some ⟨g, 0, none⟩ ∧ B ≤ g ∧ DRow w g l)
theorem DSl.block {w w' : World} {B : Nat} {v : Value} {l : List Dw} (h : DSl w B v l) (hb : ∀ g, B ≤ g → g < w.heap.size → w'.heap[g]? = w.heap[g]?) : DSl w' B v l := by
  obtain ⟨a, cap, h1, h2, h3⟩ := h
  exact ⟨a, cap, h1, h2, fun hl => by obtain ⟨g, e, hB, hr⟩ := h3 hl; exact ⟨g, e, hB, hr.block (hb g hB hr.lt)⟩⟩
theorem DSl.below {w w' : World} {B : Nat} {v : Value} {l : List Dw} (h : DSl w B v l) (hb : Below w.heap.size w w') : DSl w' B v l := h.block fun g _ hg => hb.block g hg
theorem DSl.mono {w : World} {B C : Nat} {v : Value} {l : List Dw} (h : DSl w B v l) (hc : C ≤ B) : DSl w C v l := by
  obtain ⟨a, cap, h1, h2, h3⟩ := h
  exact ⟨a, cap, h1, h2, fun hl => by obtain ⟨g, e, hB, hr⟩ := h3 hl; exact ⟨g, e, Nat.le_trans hc hB, hr⟩⟩
theorem DSl.of_own {w : World} {B : Nat} {v : Value} {l : List Dw} (h : w.ownsRow B 84 5 v l.length (flat l)) : DSl w B v l := by
  rcases h.2 with ⟨rfl, h2⟩ | ⟨g, cap, cur, hv, hb, hg, hn, hc, hs, ht⟩
  · exact ⟨none, 0, by rw [h2], by omega, fun h => absurd h (by omega)⟩
  · exact ⟨_, cap, hv, hn, fun _ => ⟨g, rfl, hb, cur, hg, ht⟩⟩
theorem DSl.mk {w : World} {B g n cap : Nat} {l : List Dw} (hn : n = l.length) (hc : n ≤ cap) (hB : B ≤ g) (hr : DRow w g l) : DSl w B (.slice (some ⟨g, 0, none⟩) n cap) l := by
  subst hn; exact ⟨_, _, rfl, hc, fun _ => ⟨g, rfl, hB, hr⟩⟩
theorem DSl.nil {w : World} {B cap : Nat} {a : Option Addr} : DSl w B (.slice a 0 cap) [] := ⟨_, _, rfl, Nat.zero_le _, fun h => absurd h (by simp)⟩
end Go.Proofs.YtmpafidkpangeaaGreat
namespace Go.Proofs.YtmpafidkpangeaaGreat
open Go.RowKit
attribute [local irreducible] World.cell?
set_option maxRecDepth 100000 in
set_option maxHeartbeats 3200000 in
theorem snew_go (x : Zw) (k0 : Nat) (w : World) (h : x.ok) (h1 : k0 ≤ 120) :
    Calls Tryz.prog 133 #[(.agg #[.int .i64 x.a, .int .i64 x.b, .int .i64 x.c, .int .i64 x.d]), .int .i64 k0] w fun e w' => (∃ (r : Dw) (t : Bool), e = .returned (.tuple #[(.agg #[.int .i64 r.n.a, .int .i64 r.n.b, .int .i64 r.n.c, .int .i64 r.n.d, .int .i64 r.e]), .bool t]) ∧ ((red k0 x).2 ≤ 60 → r = ⟨(red k0 x).1, (red k0 x).2⟩ ∧ t = true) ∧ (60 < (red k0 x).2 → r = .zero ∧ t = false)) ∧ Below w.heap.size w w' := by
  have Hv := Lib.hid (okB_true.2 h)
  have Hin := Lib.hid (lin_yes (k0 : Int) 0 120 · (by omega) (by omega))
  have Hr0 := Lib.hid (alloc_blk (.cells #[.int .i64 0, .int .i64 0, .int .i64 0, .int .i64 0, .int .i64 0] 84) (heap_alloc_new w (.cells #[.int .i64 x.a, .int .i64 x.b, .int .i64 x.c, .int .i64 x.d] 82)))
  have Hr1 := Lib.hid (show ((w.alloc (.cells #[.int .i64 x.a, .int .i64 x.b, .int .i64 x.c, .int .i64 x.d] 82)).alloc (.cells #[.int .i64 0, .int .i64 0, .int .i64 0, .int .i64 0, .int .i64 0] 84)).heap[w.heap.size + 1]? = some (.cells #[.int .i64 0, .int .i64 0, .int .i64 0, .int .i64 0, .int .i64 0] 84 (0, 0)) from by simpa using heap_alloc_new (w.alloc (.cells #[.int .i64 x.a, .int .i64 x.b, .int .i64 x.c, .int .i64 x.d] 82)) (.cells #[.int .i64 0, .int .i64 0, .int .i64 0, .int .i64 0, .int .i64 0] 84))
  go_enter Tryz.func133, Tryz.ntmps133
  go_wp2_with fail
  refine (svalid_any x true _ Hv.out).mono ?_
  rintro e w1 ⟨rfl, hb1⟩
  have hs1 := hb1.size
  simp at hs1
  have Hr01 := Lib.hid (below_blk hb1 (by simp; omega) Hr0.out)
  have Hr11 := Lib.hid (below_blk hb1 (by simp) Hr1.out)
  have Hb1 := Lib.hid (below_up (B := w.heap.size) (w := w) (by go_grown) hb1 (by simp; omega))
  clear hb1
  go_wp2_with fail
  refine (Hin.out _).mono ?_
  rintro e w2 ⟨rfl, rfl⟩
  go_wp2_with fail
  go_loopw [1] (fun s1 wr => ∃ (n : Zw) (k : Nat), s1 = .int .i64 k ∧ k ≤ k0 ∧ red k n = red k0 x ∧ wr.heap[w.heap.size]? = some (.cells #[.int .i64 n.a, .int .i64 n.b, .int .i64 n.c, .int .i64 n.d] 82 (0, 0)) ∧ wr.heap[w.heap.size + 1]? = some (.cells #[.int .i64 0, .int .i64 0, .int .i64 0, .int .i64 0, .int .i64 0] 84 (0, 0)) ∧ Below w.heap.size w wr) (fun s1 _ => (intOf s1).toNat)
  case atStart => exact ⟨x, k0, rfl, Nat.le_refl _, rfl, Hr01.out, Hr11.out, Hb1.out⟩
  case round =>
    obtain ⟨n, k, rfl, hkk, hred, hb0, hb1, hbl⟩ := hrel
    have zg0 := lt_of_block hb0
    have zg1 := lt_of_block hb1
    obtain ⟨c0, c1, c2, c3⟩ := blk_cells hb0
    have f0 := fun o => free_at hb0 o
    obtain ⟨d0, d1, d2, d3, d4⟩ := blk_cells5 hb1
    have f1 := fun o => free_at hb1 o
    have Hb0 := Lib.hid hb0
    have Hb1 := Lib.hid hb1
    have Hbl := Lib.hid hbl
    have Hred := Lib.hid hred
    clear hb0 hb1 hbl hred
    cases k with
    | zero =>
      go_wp2_with fail
      obtain ⟨k0, k1, k2, k3, k4⟩ := blk_cells5 (set5_at (u0 := .int .i64 n.a) (u1 := .int .i64 n.b) (u2 := .int .i64 n.c) (u3 := .int .i64 n.d) (u4 := .int .i64 0) Hb1.out)
      refine bodyPost_ret (v := .tuple #[(.agg #[.int .i64 (Dw.mk n 0).n.a, .int .i64 (Dw.mk n 0).n.b, .int .i64 (Dw.mk n 0).n.c, .int .i64 (Dw.mk n 0).n.d, .int .i64 (Dw.mk n 0).e]), .bool true]) (by simp only [results, Tryz.results133]; simp [go_sem, k0, k1, k2, k3, k4]) rfl ⟨⟨⟨n, 0⟩, true, rfl, by rw [← Hred.out]; exact ⟨fun _ => ⟨rfl, rfl⟩, fun h => absurd h (by simp [red])⟩⟩, ?_⟩
      have := Hbl.out
      go_grown
    | succ k =>
      have Hi := Lib.hid (sdiv_any n)
      have Hy := Lib.hid (show divB n = true → red (k + 1) n = red k (divV n) from fun h => by rw [red, if_pos h])
      have Hn := Lib.hid (show divB n = false → red (k + 1) n = (n, k + 1) from fun h => by rw [red, if_neg (by simp [h])])
      generalize divV n = q at *
      generalize divB n = t at *
      go_wp2_with fail
      refine (Hi.out _).mono ?_
      rintro e w1 ⟨rfl, hb⟩
      have hs1 := hb.size
      obtain ⟨hc1, hf1, hz1⟩ := bgrow hb
      have zg10 := hz1 _ zg0
      have zg11 := hz1 _ zg1
      have Hb01 := Lib.hid (below_blk hb zg0 Hb0.out)
      have Hb11 := Lib.hid (below_blk hb zg1 Hb1.out)
      have Hbl1 := Lib.hid (below_nx Hbl.out hb)
      clear hb
      cases t
      · have hn := Hn.out rfl
        have hn2 := (congrArg Prod.snd (Hred.out.symm.trans hn) : (red k0 x).2 = k + 1)
        have hn1 := (congrArg Prod.fst (Hred.out.symm.trans hn) : (red k0 x).1 = n)
        have Hn1 := Lib.hid hn1
        have Hn2 := Lib.hid hn2
        clear hn hn1 hn2
        by_cases hjj : 60 < k + 1
        · have hd : decide ((60 : Int) < (k : Int) + 1) = true := decide_eq_true (by omega)
          go_wp2_with fail
          obtain ⟨k0, k1, k2, k3, k4⟩ := blk_cells5 (alloc_blk (.cells #[.int .i64 q.a, .int .i64 q.b, .int .i64 q.c, .int .i64 q.d] 82) (set5_at (u0 := .int .i64 0) (u1 := .int .i64 0) (u2 := .int .i64 0) (u3 := .int .i64 0) (u4 := .int .i64 0) Hb11.out))
          refine bodyPost_ret (v := .tuple #[(.agg #[.int .i64 Dw.zero.n.a, .int .i64 Dw.zero.n.b, .int .i64 Dw.zero.n.c, .int .i64 Dw.zero.n.d, .int .i64 Dw.zero.e]), .bool false]) (by simp only [results, Tryz.results133]; simp [go_sem, k0, k1, k2, k3, k4, Dw.zero, Zw.zero]) rfl ⟨⟨.zero, false, rfl, fun h => absurd h (by have := Hn2.out; omega), fun _ => ⟨rfl, rfl⟩⟩, ?_⟩
          have := Hbl1.out
          go_grown
        · have hd : decide ((60 : Int) < (k : Int) + 1) = false := decide_eq_false (by omega)
          go_wp2_with fail
          obtain ⟨k0, k1, k2, k3, k4⟩ := blk_cells5 (alloc_blk (.cells #[.int .i64 q.a, .int .i64 q.b, .int .i64 q.c, .int .i64 q.d] 82) (set5_at (u0 := .int .i64 n.a) (u1 := .int .i64 n.b) (u2 := .int .i64 n.c) (u3 := .int .i64 n.d) (u4 := .int .i64 ((k : Int) + 1)) Hb11.out))
          refine bodyPost_ret (v := .tuple #[(.agg #[.int .i64 (Dw.mk n ((k + 1 : Nat) : Int)).n.a, .int .i64 (Dw.mk n ((k + 1 : Nat) : Int)).n.b, .int .i64 (Dw.mk n ((k + 1 : Nat) : Int)).n.c, .int .i64 (Dw.mk n ((k + 1 : Nat) : Int)).n.d, .int .i64 (Dw.mk n ((k + 1 : Nat) : Int)).e]), .bool true]) (by simp only [results, Tryz.results133]; simp [go_sem, k0, k1, k2, k3, k4]) rfl ⟨⟨⟨n, ((k + 1 : Nat) : Int)⟩, true, rfl, fun _ => ⟨by rw [Hn1.out, Hn2.out], rfl⟩, fun h => absurd h (by have := Hn2.out; omega)⟩, ?_⟩
          have := Hbl1.out
          go_grown
      · have hn := Hy.out rfl
        go_wp2_with fail
        go_roundw
        case rel => exact ⟨q, k, by go_num, by omega, by rw [← hn]; exact Hred.out, alloc_blk _ (set4_at Hb01.out), alloc_blk _ (set4_blk (by omega) Hb11.out), by have := Hbl1.out; go_grown⟩
        case measure => simp [intOf]
set_option maxRecDepth 100000 in
set_option maxHeartbeats 1600000 in
theorem snew_bad (x : Zw) (k : Int) (w : World) (h0 : -9223372036854775808 ≤ k) (h1 : k ≤ 9223372036854775807) (h : ¬ (x.ok ∧ 0 ≤ k ∧ k ≤ 120)) :
    Calls Tryz.prog 133 #[(.agg #[.int .i64 x.a, .int .i64 x.b, .int .i64 x.c, .int .i64 x.d]), .int .i64 k] w fun e w' => e = .returned (.tuple #[(.agg #[.int .i64 Dw.zero.n.a, .int .i64 Dw.zero.n.b, .int .i64 Dw.zero.n.c, .int .i64 Dw.zero.n.d, .int .i64 Dw.zero.e]), .bool false]) ∧ Below w.heap.size w w' := by
  have Hr1 := Lib.hid (show ((w.alloc (.cells #[.int .i64 x.a, .int .i64 x.b, .int .i64 x.c, .int .i64 x.d] 82)).alloc (.cells #[.int .i64 0, .int .i64 0, .int .i64 0, .int .i64 0, .int .i64 0] 84)).heap[w.heap.size + 1]? = some (.cells #[.int .i64 0, .int .i64 0, .int .i64 0, .int .i64 0, .int .i64 0] 84 (0, 0)) from by simpa using heap_alloc_new (w.alloc (.cells #[.int .i64 x.a, .int .i64 x.b, .int .i64 x.c, .int .i64 x.d] 82)) (.cells #[.int .i64 0, .int .i64 0, .int .i64 0, .int .i64 0, .int .i64 0] 84))
  have hk : okB x = true → k < 0 ∨ 120 < k := fun hx => by
    have hx := okB_true.1 hx
    by_cases h2 : k < 0
    · exact .inl h2
    · exact .inr (by have : ¬ k ≤ 120 := fun h3 => h ⟨hx, by omega, h3⟩; omega)
  have Hi := Lib.hid (fun w => svalid_any x (okB x) w rfl)
  clear h
  generalize okB x = b at *
  go_enter Tryz.func133, Tryz.ntmps133
  go_wp2_with fail
  refine (Hi.out _).mono ?_
  rintro e w1 ⟨rfl, hb1⟩
  have hr1 := below_blk hb1 (by simp) Hr1.out
  obtain ⟨e0, e1, e2, e3, e4⟩ := blk_cells5 hr1
  have f1 := fun o => free_at hr1 o
  have Hr11 := Lib.hid hr1
  have Hb1 := Lib.hid (below_up (B := w.heap.size) (w := w) (by go_grown) hb1 (by simp; omega))
  clear hb1 hr1
  cases b
  · clear hk
    go_wp2_with fail
    obtain ⟨k0, k1, k2, k3, k4⟩ := blk_cells5 (set5_at (u0 := .int .i64 0) (u1 := .int .i64 0) (u2 := .int .i64 0) (u3 := .int .i64 0) (u4 := .int .i64 0) Hr11.out)
    refine bodyPost_ret (v := .tuple #[(.agg #[.int .i64 Dw.zero.n.a, .int .i64 Dw.zero.n.b, .int .i64 Dw.zero.n.c, .int .i64 Dw.zero.n.d, .int .i64 Dw.zero.e]), .bool false]) (by simp only [results, Tryz.results133]; simp [go_sem, k0, k1, k2, k3, k4, Dw.zero, Zw.zero]) rfl ⟨rfl, ?_⟩
    have := Hb1.out
    go_grown
  · rcases hk rfl with hk | hk
    · have Hin := Lib.hid (lin_no k 0 120 · (by omega))
      clear hk
      go_wp2_with fail
      refine (Hin.out _).mono ?_
      rintro e w2 ⟨rfl, rfl⟩
      go_wp2_with fail
      obtain ⟨k0, k1, k2, k3, k4⟩ := blk_cells5 (set5_at (u0 := .int .i64 0) (u1 := .int .i64 0) (u2 := .int .i64 0) (u3 := .int .i64 0) (u4 := .int .i64 0) Hr11.out)
      refine bodyPost_ret (v := .tuple #[(.agg #[.int .i64 Dw.zero.n.a, .int .i64 Dw.zero.n.b, .int .i64 Dw.zero.n.c, .int .i64 Dw.zero.n.d, .int .i64 Dw.zero.e]), .bool false]) (by simp only [results, Tryz.results133]; simp [go_sem, k0, k1, k2, k3, k4, Dw.zero, Zw.zero]) rfl ⟨rfl, ?_⟩
      have := Hb1.out
      go_grown
    · have Hin := Lib.hid (lin_no k 0 120 · (by omega))
      clear hk
      go_wp2_with fail
      refine (Hin.out _).mono ?_
      rintro e w2 ⟨rfl, rfl⟩
      go_wp2_with fail
      obtain ⟨k0, k1, k2, k3, k4⟩ := blk_cells5 (set5_at (u0 := .int .i64 0) (u1 := .int .i64 0) (u2 := .int .i64 0) (u3 := .int .i64 0) (u4 := .int .i64 0) Hr11.out)
      refine bodyPost_ret (v := .tuple #[(.agg #[.int .i64 Dw.zero.n.a, .int .i64 Dw.zero.n.b, .int .i64 Dw.zero.n.c, .int .i64 Dw.zero.n.d, .int .i64 Dw.zero.e]), .bool false]) (by simp only [results, Tryz.results133]; simp [go_sem, k0, k1, k2, k3, k4, Dw.zero, Zw.zero]) rfl ⟨rfl, ?_⟩
      have := Hb1.out
      go_grown
theorem snew_any (x : Zw) (k : Int) (w : World) (h0 : -9223372036854775808 ≤ k) (h1 : k ≤ 9223372036854775807) :
    Calls Tryz.prog 133 #[(.agg #[.int .i64 x.a, .int .i64 x.b, .int .i64 x.c, .int .i64 x.d]), .int .i64 k] w fun e w' => e = .returned (.tuple #[(.agg #[.int .i64 (newV x k).n.a, .int .i64 (newV x k).n.b, .int .i64 (newV x k).n.c, .int .i64 (newV x k).n.d, .int .i64 (newV x k).e]), .bool (newB x k)]) ∧ Below w.heap.size w w' := by
  by_cases h : x.ok ∧ 0 ≤ k ∧ k ≤ 120
  · obtain ⟨hx, h2, h3⟩ := h
    obtain ⟨n, rfl⟩ := Int.eq_ofNat_of_zero_le h2
    refine (snew_go x n w hx (by omega)).mono ?_
    rintro e w' ⟨⟨r, t, rfl, hy, hn⟩, hb⟩
    refine ⟨?_, hb⟩
    by_cases hj : (red n x).2 ≤ 60
    · obtain ⟨rfl, rfl⟩ := hy hj
      have hb : newB x n = true := newB_iff.2 ⟨hx, h2, h3, by simpa using hj⟩
      rw [newV_of hb, hb]; simp
    · obtain ⟨rfl, rfl⟩ := hn (by omega)
      have hb : newB x n = false := by
        rw [Bool.eq_false_iff]; intro hb; have := (newB_iff.1 hb).2.2.2; simp at this; omega
      rw [newV, hb]; rfl
  · have hb : newB x k = false := by
      rw [Bool.eq_false_iff]; intro hb; have := newB_iff.1 hb; exact h ⟨this.1, this.2.1, this.2.2.1⟩
    rw [newV, hb]
    exact snew_bad x k w h0 h1 h
end Go.Proofs.YtmpafidkpangeaaGreat
namespace Go.Proofs.YtmpafidkpangeaaGreat
open Go.RowKit
attribute [local irreducible] World.cell?
def okD (x : Dw) : Bool := decide x.ok
theorem okD_true {x : Dw} : okD x = true ↔ x.ok := by simp [okD]
theorem okD_false {x : Dw} : okD x = false ↔ ¬ x.ok := by simp [okD]
theorem okD_self (x : Dw) : okD x = (newB x.n x.e && eqDB (newV x.n x.e) x) := by
  rw [Bool.eq_iff_iff, Bool.and_eq_true, okD_true]
  refine ⟨fun h => ⟨(newV_self h).1, eqDB_iff.2 (newV_self h).2⟩, ?_⟩
  rintro ⟨h1, h2⟩
  have := newV_ok h1
  rw [eqDB_iff.1 h2] at this
  exact this
theorem okD_parts (x : Dw) : okD x = (okB x.n && (decide (0 ≤ x.e ∧ x.e ≤ 60) && (!divB x.n || decide (x.e = 0)))) := by
  rw [Bool.eq_iff_iff, okD_true]
  simp only [Bool.and_eq_true, Bool.or_eq_true, Bool.not_eq_true', decide_eq_true_eq, okB_true, Dw.ok]
  constructor
  · rintro ⟨h1, h2, h3, h4⟩; exact ⟨h1, ⟨h2, h3⟩, h4.symm⟩
  · rintro ⟨h1, ⟨h2, h3⟩, h4⟩; exact ⟨h1, h2, h3, h4.symm⟩
set_option maxRecDepth 100000 in
set_option maxHeartbeats 1600000 in
theorem ivalidD (x : Dw) (w : World) (h0 : -9223372036854775808 ≤ x.e) (h1 : x.e ≤ 9223372036854775807) :
    Calls Tryz.prog 111 #[(.agg #[.int .i64 x.n.a, .int .i64 x.n.b, .int .i64 x.n.c, .int .i64 x.n.d, .int .i64 x.e])] w fun e w' => e = .returned (.bool (okD x)) ∧ Below w.heap.size w w' := by
  have Hn := Lib.hid (fun w => inew_any x.n x.e w h0 h1)
  rw [okD_self]
  have Heq := eqD (newV x.n x.e) x
  have Hr0 := Lib.hid (heap_alloc_new w (.cells #[.int .i64 x.n.a, .int .i64 x.n.b, .int .i64 x.n.c, .int .i64 x.n.d, .int .i64 x.e] 84))
  generalize eqDB (newV x.n x.e) x = b at *
  generalize newV x.n x.e = r at *
  generalize newB x.n x.e = t at *
  go_enter Tryz.func111, Tryz.ntmps111
  go_wp2_with fail
  refine (Hn.out _).mono ?_
  rintro e w1 ⟨rfl, hb1⟩
  have hr0 := below_blk hb1 (by simp) Hr0.out
  have zg1 := lt_of_block hr0
  obtain ⟨c0, c1, c2, c3, c4⟩ := blk_cells5 hr0
  have Hb1 := Lib.hid (below_up (B := w.heap.size) (w := w) (by go_grown) hb1 (by simp))
  clear hb1 hr0
  cases t
  · clear Heq
    go_wp2_with fail
    go_returns
    exact ⟨rfl, by have := Hb1.out; go_grown⟩
  · go_wp2_with fail
    go_returns
    exact ⟨rfl, by have := Hb1.out; go_grown⟩
set_option maxRecDepth 100000 in
set_option maxHeartbeats 1600000 in
theorem svalidD (x : Dw) (w : World) :
    Calls Tryz.prog 124 #[(.agg #[.int .i64 x.n.a, .int .i64 x.n.b, .int .i64 x.n.c, .int .i64 x.n.d, .int .i64 x.e])] w fun e w' => e = .returned (.bool (okD x)) ∧ Below w.heap.size w w' := by
  have Hd := Lib.hid (sdiv_any x.n)
  have Hv := Lib.hid (fun w => svalid_any x.n (okB x.n) w rfl)
  have Hi := Lib.hid (fun w => lin_any x.e 0 60 (decide (0 ≤ x.e ∧ x.e ≤ 60)) w rfl)
  rw [okD_parts]
  have Hr0 := Lib.hid (heap_alloc_new w (.cells #[.int .i64 x.n.a, .int .i64 x.n.b, .int .i64 x.n.c, .int .i64 x.n.d, .int .i64 x.e] 84))
  generalize divV x.n = q at *
  generalize divB x.n = t at *
  generalize okB x.n = u at *
  generalize decide (0 ≤ x.e ∧ x.e ≤ 60) = v at *
  go_enter Tryz.func124, Tryz.ntmps124
  go_wp2_with fail
  refine (Hd.out _).mono ?_
  rintro e w1 ⟨rfl, hb1⟩
  have hr1 := below_blk hb1 (by simp) Hr0.out
  have zg1 := lt_of_block hr1
  have Hr1 := Lib.hid (alloc_blk (.cells #[.int .i64 q.a, .int .i64 q.b, .int .i64 q.c, .int .i64 q.d] 82) hr1)
  obtain ⟨c0, c1, c2, c3, c4⟩ := blk_cells5 hr1
  have hb1' := below_up (B := w.heap.size) (w := w) (by go_grown) hb1 (by simp)
  have Hb1 := Lib.hid (hb1'.alloc hb1'.size (.cells #[.int .i64 q.a, .int .i64 q.b, .int .i64 q.c, .int .i64 q.d] 82))
  clear hb1 hr1 hb1'
  go_wp2_with fail
  refine (Hv.out _).mono ?_
  rintro e w2 ⟨rfl, hb2⟩
  have hr2 := below_blk hb2 (lt_of_block Hr1.out) Hr1.out
  have zg2 := lt_of_block hr2
  clear c0 c1 c2 c3 c4 zg1
  obtain ⟨c0, c1, c2, c3, c4⟩ := blk_cells5 hr2
  have Hb2 := Lib.hid (below_nx Hb1.out hb2)
  clear hb2 hr2
  cases u
  · go_wp2_with fail
    go_returns
    exact ⟨rfl, by have := Hb2.out; go_grown⟩
  · go_wp2_with fail
    refine (Hi.out _).mono ?_
    rintro e w3 ⟨rfl, rfl⟩
    cases v
    · go_wp2_with fail
      go_returns
      exact ⟨rfl, by have := Hb2.out; go_grown⟩
    · cases t
      · go_wp2_with fail
        go_returns
        exact ⟨rfl, by have := Hb2.out; go_grown⟩
      · go_wp2_with fail
        go_returns
        exact ⟨rfl, by have := Hb2.out; go_grown⟩
end Go.Proofs.YtmpafidkpangeaaGreat
namespace Go.Proofs.YtmpafidkpangeaaGreat
open Go.RowKit
attribute [local irreducible] World.cell?
theorem up_step {j : Nat} {m : Zw} (h : mulB m rootE = true) : mulV m rootE = m.root ∧ upB (j + 1) m = upB j m.root ∧ rootN (j + 1) m = rootN j m.root := by
  refine ⟨?_, by rw [upB, h]; rfl, rfl⟩
  obtain ⟨h1, h2, h3⟩ := mulB_iff.1 h
  rw [mulV, if_pos ⟨h1, h2, h3⟩, mul_rootE]
theorem up_stop {j : Nat} {m : Zw} (h : mulB m rootE = false) : upB (j + 1) m = false := by rw [upB, h]; rfl
theorem upV_end {k : Nat} {n : Zw} (h : upB k n = true) : upV k n = rootN k n := upV_of h
theorem upV_no {k : Nat} {n : Zw} (h : upB k n = false) : upV k n = .zero := if_neg (by simp [h])
set_option maxRecDepth 100000 in
set_option maxHeartbeats 3200000 in
theorem iup_any (x : Zw) (k0 : Nat) (hk : k0 ≤ 120) (w : World) :
    Calls Tryz.prog 166 #[(.agg #[.int .i64 x.a, .int .i64 x.b, .int .i64 x.c, .int .i64 x.d]), .int .i64 k0] w fun e w' => e = .returned (.tuple #[(.agg #[.int .i64 (upV k0 x).a, .int .i64 (upV k0 x).b, .int .i64 (upV k0 x).c, .int .i64 (upV k0 x).d]), .bool (upB k0 x)]) ∧ Below w.heap.size w w' := by
  have Hr0 := Lib.hid (alloc_blk (.cells #[.int .i64 rootE.a, .int .i64 rootE.b, .int .i64 rootE.c, .int .i64 rootE.d] 82) (alloc_blk (.cells #[.int .i64 0, .int .i64 0, .int .i64 0, .int .i64 0] 82) (heap_alloc_new w (.cells #[.int .i64 x.a, .int .i64 x.b, .int .i64 x.c, .int .i64 x.d] 82))))
  have Hr1 := Lib.hid (alloc_blk (.cells #[.int .i64 rootE.a, .int .i64 rootE.b, .int .i64 rootE.c, .int .i64 rootE.d] 82) (show ((w.alloc (.cells #[.int .i64 x.a, .int .i64 x.b, .int .i64 x.c, .int .i64 x.d] 82)).alloc (.cells #[.int .i64 0, .int .i64 0, .int .i64 0, .int .i64 0] 82)).heap[w.heap.size + 1]? = some (.cells #[.int .i64 0, .int .i64 0, .int .i64 0, .int .i64 0] 82 (0, 0)) from by simpa using heap_alloc_new (w.alloc (.cells #[.int .i64 x.a, .int .i64 x.b, .int .i64 x.c, .int .i64 x.d] 82)) (.cells #[.int .i64 0, .int .i64 0, .int .i64 0, .int .i64 0] 82)))
  have Hr2 := Lib.hid (show (((w.alloc (.cells #[.int .i64 x.a, .int .i64 x.b, .int .i64 x.c, .int .i64 x.d] 82)).alloc (.cells #[.int .i64 0, .int .i64 0, .int .i64 0, .int .i64 0] 82)).alloc (.cells #[.int .i64 rootE.a, .int .i64 rootE.b, .int .i64 rootE.c, .int .i64 rootE.d] 82)).heap[w.heap.size + 2]? = some (.cells #[.int .i64 rootE.a, .int .i64 rootE.b, .int .i64 rootE.c, .int .i64 rootE.d] 82 (0, 0)) from by simpa using heap_alloc_new ((w.alloc (.cells #[.int .i64 x.a, .int .i64 x.b, .int .i64 x.c, .int .i64 x.d] 82)).alloc (.cells #[.int .i64 0, .int .i64 0, .int .i64 0, .int .i64 0] 82)) (.cells #[.int .i64 rootE.a, .int .i64 rootE.b, .int .i64 rootE.c, .int .i64 rootE.d] 82))
  go_enter Tryz.func166, Tryz.ntmps166
  go_wp2_with fail
  go_loopw [11] (fun s11 wr => ∃ (n : Zw) (i : Nat), s11 = .int .i64 i ∧ i ≤ k0 ∧ upB (k0 - i) n = upB k0 x ∧ rootN (k0 - i) n = rootN k0 x ∧ wr.heap[w.heap.size]? = some (.cells #[.int .i64 n.a, .int .i64 n.b, .int .i64 n.c, .int .i64 n.d] 82 (0, 0)) ∧ wr.heap[w.heap.size + 1]? = some (.cells #[.int .i64 0, .int .i64 0, .int .i64 0, .int .i64 0] 82 (0, 0)) ∧ wr.heap[w.heap.size + 2]? = some (.cells #[.int .i64 rootE.a, .int .i64 rootE.b, .int .i64 rootE.c, .int .i64 rootE.d] 82 (0, 0)) ∧ Below w.heap.size w wr) (fun s11 _ => k0 - (intOf s11).toNat)
  case atStart => exact ⟨x, 0, rfl, Nat.zero_le _, rfl, rfl, Hr0.out, Hr1.out, Hr2.out, by go_grown⟩
  case round =>
    obtain ⟨n, i, rfl, hii, hB, hV, hb0, hb1, hb2, hbl⟩ := hrel
    have zg0 := lt_of_block hb0
    have zg1 := lt_of_block hb1
    have zg2 := lt_of_block hb2
    obtain ⟨c0, c1, c2, c3⟩ := blk_cells hb0
    have f0 := fun o => free_at hb0 o
    obtain ⟨d0, d1, d2, d3⟩ := blk_cells hb1
    have f1 := fun o => free_at hb1 o
    obtain ⟨e0, e1, e2, e3⟩ := blk_cells hb2
    have Hb0 := Lib.hid hb0
    have Hb1 := Lib.hid hb1
    have Hb2 := Lib.hid hb2
    have Hbl := Lib.hid hbl
    have HB := Lib.hid hB
    have HV := Lib.hid hV
    clear hb0 hb1 hb2 hbl hB hV
    by_cases hlt : i < k0
    · have hd : decide ((i : Int) < (k0 : Int)) = true := decide_eq_true (by omega)
      have hj : k0 - i = (k0 - (i + 1)) + 1 := by omega
      have Hm := Lib.hid (imul_any n rootE)
      have Hs := Lib.hid (fun h => @up_step (k0 - (i + 1)) n h)
      have Hn := Lib.hid (fun h => @up_stop (k0 - (i + 1)) n h)
      have HB' := Lib.hid ((congrArg (fun z => upB z n) hj).symm.trans HB.out)
      have HV' := Lib.hid ((congrArg (fun z => rootN z n) hj).symm.trans HV.out)
      clear hj
      generalize mulV n rootE = q at *
      generalize mulB n rootE = t at *
      go_wp2_with fail
      refine (Hm.out _).mono ?_
      rintro e w1 ⟨rfl, hb⟩
      have Hb01 := Lib.hid (below_blk hb zg0 Hb0.out)
      have Hb11 := Lib.hid (below_blk hb zg1 Hb1.out)
      have Hb21 := Lib.hid (below_blk hb zg2 Hb2.out)
      have Hbl1 := Lib.hid (below_nx Hbl.out hb)
      clear c0 c1 c2 c3 f0 d0 d1 d2 d3 f1 e0 e1 e2 e3 zg0 zg1 zg2 hb
      have zg0 := lt_of_block Hb01.out
      have zg1 := lt_of_block Hb11.out
      obtain ⟨c0, c1, c2, c3⟩ := blk_cells Hb01.out
      have f0 := fun o => free_at Hb01.out o
      obtain ⟨d0, d1, d2, d3⟩ := blk_cells Hb11.out
      have f1 := fun o => free_at Hb11.out o
      cases t
      · have Hu := Lib.hid (HB'.out.symm.trans (Hn.out rfl))
        go_wp2_with fail
        obtain ⟨k0, k1, k2, k3⟩ := blk_cells (alloc_blk (.cells #[.int .i64 q.a, .int .i64 q.b, .int .i64 q.c, .int .i64 q.d] 82) (set4_at (u0 := .int .i64 0) (u1 := .int .i64 0) (u2 := .int .i64 0) (u3 := .int .i64 0) Hb11.out))
        refine bodyPost_ret (v := .tuple #[(.agg #[.int .i64 Zw.zero.a, .int .i64 Zw.zero.b, .int .i64 Zw.zero.c, .int .i64 Zw.zero.d]), .bool false]) (by simp only [results, Tryz.results166]; simp [go_sem, k0, k1, k2, k3, Zw.zero]) rfl ⟨by rw [upV_no Hu.out, Hu.out], ?_⟩
        have := Hbl1.out
        go_grown
      · obtain ⟨rfl, h1, h2⟩ := Hs.out rfl
        have H1 := Lib.hid h1
        have H2 := Lib.hid h2
        clear h1 h2
        go_wp2_with fail
        go_roundw
        case rel => exact ⟨n.root, i + 1, by go_num, by omega, H1.out.symm.trans HB'.out, H2.out.symm.trans HV'.out, alloc_blk _ (set4_at Hb01.out), alloc_blk _ (set4_blk (by omega) Hb11.out), alloc_blk _ (set4_blk (by omega) Hb21.out), by have := Hbl1.out; go_grown⟩
        case measure => simp [intOf]; omega
    · obtain rfl : i = k0 := by omega
      have hd : decide ((i : Int) < (i : Int)) = false := decide_eq_false (by omega)
      have Hu := Lib.hid (show upB i x = true from HB.out.symm.trans (by rw [Nat.sub_self]; rfl))
      have Hw := Lib.hid (show rootN i x = n from HV.out.symm.trans (by rw [Nat.sub_self]; rfl))
      go_wp2_with fail
      obtain ⟨k0, k1, k2, k3⟩ := blk_cells (set4_at (u0 := .int .i64 n.a) (u1 := .int .i64 n.b) (u2 := .int .i64 n.c) (u3 := .int .i64 n.d) Hb1.out)
      refine bodyPost_ret (v := .tuple #[(.agg #[.int .i64 n.a, .int .i64 n.b, .int .i64 n.c, .int .i64 n.d]), .bool true]) (by simp only [results, Tryz.results166]; simp [go_sem, k0, k1, k2, k3]) rfl ⟨by rw [upV_end Hu.out, Hu.out, Hw.out], ?_⟩
      have := Hbl.out
      go_grown
set_option maxRecDepth 100000 in
set_option maxHeartbeats 3200000 in
theorem sup_any (x : Zw) (k0 : Nat) (hk : k0 ≤ 120) (w : World) :
    Calls Tryz.prog 134 #[(.agg #[.int .i64 x.a, .int .i64 x.b, .int .i64 x.c, .int .i64 x.d]), .int .i64 k0] w fun e w' => e = .returned (.tuple #[(.agg #[.int .i64 (upV k0 x).a, .int .i64 (upV k0 x).b, .int .i64 (upV k0 x).c, .int .i64 (upV k0 x).d]), .bool (upB k0 x)]) ∧ Below w.heap.size w w' := by
  have Hr0 := Lib.hid (alloc_blk (.cells #[.int .i64 0, .int .i64 0, .int .i64 0, .int .i64 0] 82) (heap_alloc_new w (.cells #[.int .i64 x.a, .int .i64 x.b, .int .i64 x.c, .int .i64 x.d] 82)))
  have Hr1 := Lib.hid (show ((w.alloc (.cells #[.int .i64 x.a, .int .i64 x.b, .int .i64 x.c, .int .i64 x.d] 82)).alloc (.cells #[.int .i64 0, .int .i64 0, .int .i64 0, .int .i64 0] 82)).heap[w.heap.size + 1]? = some (.cells #[.int .i64 0, .int .i64 0, .int .i64 0, .int .i64 0] 82 (0, 0)) from by simpa using heap_alloc_new (w.alloc (.cells #[.int .i64 x.a, .int .i64 x.b, .int .i64 x.c, .int .i64 x.d] 82)) (.cells #[.int .i64 0, .int .i64 0, .int .i64 0, .int .i64 0] 82))
  go_enter Tryz.func134, Tryz.ntmps134
  go_wp2_with fail
  go_loopw [6] (fun s6 wr => ∃ (n : Zw) (i : Nat), s6 = .int .i64 i ∧ i ≤ k0 ∧ upB (k0 - i) n = upB k0 x ∧ rootN (k0 - i) n = rootN k0 x ∧ wr.heap[w.heap.size]? = some (.cells #[.int .i64 n.a, .int .i64 n.b, .int .i64 n.c, .int .i64 n.d] 82 (0, 0)) ∧ wr.heap[w.heap.size + 1]? = some (.cells #[.int .i64 0, .int .i64 0, .int .i64 0, .int .i64 0] 82 (0, 0)) ∧ Below w.heap.size w wr) (fun s6 _ => k0 - (intOf s6).toNat)
  case atStart => exact ⟨x, 0, rfl, Nat.zero_le _, rfl, rfl, Hr0.out, Hr1.out, by go_grown⟩
  case round =>
    obtain ⟨n, i, rfl, hii, hB, hV, hb0, hb1, hbl⟩ := hrel
    have zg0 := lt_of_block hb0
    have zg1 := lt_of_block hb1
    obtain ⟨c0, c1, c2, c3⟩ := blk_cells hb0
    have f0 := fun o => free_at hb0 o
    obtain ⟨d0, d1, d2, d3⟩ := blk_cells hb1
    have f1 := fun o => free_at hb1 o
    have Hb0 := Lib.hid hb0
    have Hb1 := Lib.hid hb1
    have Hbl := Lib.hid hbl
    have HB := Lib.hid hB
    have HV := Lib.hid hV
    clear hb0 hb1 hbl hB hV
    by_cases hlt : i < k0
    · have hd : decide ((i : Int) < (k0 : Int)) = true := decide_eq_true (by omega)
      have hj : k0 - i = (k0 - (i + 1)) + 1 := by omega
      have Hm := Lib.hid (smul_any n rootE)
      have Hs := Lib.hid (fun h => @up_step (k0 - (i + 1)) n h)
      have Hn := Lib.hid (fun h => @up_stop (k0 - (i + 1)) n h)
      have HB' := Lib.hid ((congrArg (fun z => upB z n) hj).symm.trans HB.out)
      have HV' := Lib.hid ((congrArg (fun z => rootN z n) hj).symm.trans HV.out)
      clear hj
      generalize mulV n rootE = q at *
      generalize mulB n rootE = t at *
      go_wp2_with fail
      refine (Hm.out _).mono ?_
      rintro e w1 ⟨rfl, hb⟩
      have Hb01 := Lib.hid (below_blk hb zg0 Hb0.out)
      have Hb11 := Lib.hid (below_blk hb zg1 Hb1.out)
      have Hbl1 := Lib.hid (below_nx Hbl.out hb)
      clear c0 c1 c2 c3 f0 d0 d1 d2 d3 f1 zg0 zg1 hb
      have zg0 := lt_of_block Hb01.out
      have zg1 := lt_of_block Hb11.out
      obtain ⟨c0, c1, c2, c3⟩ := blk_cells Hb01.out
      have f0 := fun o => free_at Hb01.out o
      obtain ⟨d0, d1, d2, d3⟩ := blk_cells Hb11.out
      have f1 := fun o => free_at Hb11.out o
      cases t
      · have Hu := Lib.hid (HB'.out.symm.trans (Hn.out rfl))
        go_wp2_with fail
        obtain ⟨k0, k1, k2, k3⟩ := blk_cells (alloc_blk (.cells #[.int .i64 q.a, .int .i64 q.b, .int .i64 q.c, .int .i64 q.d] 82) (set4_at (u0 := .int .i64 0) (u1 := .int .i64 0) (u2 := .int .i64 0) (u3 := .int .i64 0) Hb11.out))
        refine bodyPost_ret (v := .tuple #[(.agg #[.int .i64 Zw.zero.a, .int .i64 Zw.zero.b, .int .i64 Zw.zero.c, .int .i64 Zw.zero.d]), .bool false]) (by simp only [results, Tryz.results134]; simp [go_sem, k0, k1, k2, k3, Zw.zero]) rfl ⟨by rw [upV_no Hu.out, Hu.out], ?_⟩
        have := Hbl1.out
        go_grown
      · obtain ⟨rfl, h1, h2⟩ := Hs.out rfl
        have H1 := Lib.hid h1
        have H2 := Lib.hid h2
        clear h1 h2
        go_wp2_with fail
        go_roundw
        case rel => exact ⟨n.root, i + 1, by go_num, by omega, H1.out.symm.trans HB'.out, H2.out.symm.trans HV'.out, alloc_blk _ (set4_at Hb01.out), alloc_blk _ (set4_blk (by omega) Hb11.out), by have := Hbl1.out; go_grown⟩
        case measure => simp [intOf]; omega
    · obtain rfl : i = k0 := by omega
      have hd : decide ((i : Int) < (i : Int)) = false := decide_eq_false (by omega)
      have Hu := Lib.hid (show upB i x = true from HB.out.symm.trans (by rw [Nat.sub_self]; rfl))
      have Hw := Lib.hid (show rootN i x = n from HV.out.symm.trans (by rw [Nat.sub_self]; rfl))
      go_wp2_with fail
      obtain ⟨k0, k1, k2, k3⟩ := blk_cells (set4_at (u0 := .int .i64 n.a) (u1 := .int .i64 n.b) (u2 := .int .i64 n.c) (u3 := .int .i64 n.d) Hb1.out)
      refine bodyPost_ret (v := .tuple #[(.agg #[.int .i64 n.a, .int .i64 n.b, .int .i64 n.c, .int .i64 n.d]), .bool true]) (by simp only [results, Tryz.results134]; simp [go_sem, k0, k1, k2, k3]) rfl ⟨by rw [upV_end Hu.out, Hu.out, Hw.out], ?_⟩
      have := Hbl.out
      go_grown
set_option maxRecDepth 100000 in
set_option maxHeartbeats 400000 in
theorem max_any (a b : Int) (w : World) :
    Calls Tryz.prog 92 #[.int .i64 a, .int .i64 b] w fun e w' => e = .returned (.int .i64 (if b < a then a else b)) ∧ w = w' := by
  by_cases h : b < a
  · rw [if_pos h]
    go_enter Tryz.func92, Tryz.ntmps92
    go_wp2_with fail
    go_ret
    exact ⟨rfl, rfl⟩
  · rw [if_neg h]
    go_enter Tryz.func92, Tryz.ntmps92
    go_wp2_with fail
    go_ret
    exact ⟨rfl, rfl⟩
end Go.Proofs.YtmpafidkpangeaaGreat
namespace Go.Proofs.YtmpafidkpangeaaGreat
open Go.RowKit
theorem flatI : ∀ l : List Int, intE.flat l = l.map (Value.int .i64)
  | [] => rfl
  | x :: l => by rw [Enc.flat_cons, flatI l]; rfl
theorem sizeInt : (Tryz.prog.info? 3).map (·.size) = some 1 := by kernel_rfl
/-- The block g, of whatever type, begins with these integers. -/
def AR (w : World) (g : Nat) (l : List Int) : Prop := ∃ (cs : Array Value) (ty : TypeId), w.heap[g]? = some (.cells cs ty (0, 0)) ∧ cs.toList.take l.length = l.map (Value.int .i64)
theorem AR.lt {w : World} {g : Nat} {l : List Int} (h : AR w g l) : g < w.heap.size := by obtain ⟨cs, ty, h1, _⟩ := h; exact lt_of_block h1
theorem AR.block {w w' : World} {g : Nat} {l : List Int} (h : AR w g l) (hb : w'.heap[g]? = w.heap[g]?) : AR w' g l := by obtain ⟨cs, ty, h1, h2⟩ := h; exact ⟨cs, ty, hb.trans h1, h2⟩
theorem AR.cell {w : World} {g : Nat} {l : List Int} (h : AR w g l) {j : Nat} {x : Int} (hx : l[j]? = some x) : w.cell? ⟨g, j, none⟩ = some (.int .i64 x) := by
  obtain ⟨cs, ty, h1, h2⟩ := h
  have hj : j < l.length := by
    rcases Nat.lt_or_ge j l.length with h' | h'
    · exact h'
    · rw [List.getElem?_eq_none h'] at hx; cases hx
  refine cell_at h1 _ _ ?_
  have e : (cs.toList.take l.length)[j]? = (l.map (Value.int .i64))[j]? := by rw [h2]
  rw [List.getElem?_take, if_pos hj, List.getElem?_map, hx] at e
  rw [← Array.getElem?_toList]; exact e
theorem AR.of_row {w : World} {g : Nat} {l : List Int} (h : intE.Row w g l) : AR w g l := by
  obtain ⟨cs, h1, h2⟩ := h
  refine ⟨cs, _, h1, ?_⟩
  rw [show l.length * intE.n = l.length from Nat.mul_one _] at h2
  rw [h2, flatI]
end Go.Proofs.YtmpafidkpangeaaGreat
namespace Go.Proofs.YtmpafidkpangeaaGreat
open Go.RowKit
theorem Enc.Row.src {α : Type} {E : Enc α} {w : World} {g : Nat} {l : List α} (h : E.Row w g l) : ∀ j u, (E.flat l)[j]? = some u → w.cell? ((⟨g, 0, none⟩ : Addr).add j) = some u := by
  obtain ⟨cs, h1, h2⟩ := h
  intro j u hj
  have ha : (⟨g, 0, none⟩ : Addr).add j = ⟨g, j, none⟩ := by unfold Addr.add; split <;> simp_all
  rw [ha]
  refine cell_at h1 _ _ ?_
  rw [← h2, List.getElem?_take] at hj
  split at hj
  · rw [← Array.getElem?_toList]; exact hj
  · cases hj
theorem run_append_zero {P : Program} (w : World) (t ty e : TypeId) (i : TypeInfo) (ht : P.underlying t = some (.slice e)) (hi : P.info? e = some i) (b a : Option Addr) (n cap c : Nat) (hc : n ≤ cap) :
    (Builtin.append_ #[t, t] ty #[.slice b n cap, .slice a 0 c]).run P w = .ok (.slice b n cap) w := by
  cases a <;> cases b <;> simp [Builtin.append_, run_underlying ht, sizeOf, typeInfo, hi, Builtin.lenOf, Builtin.firstCells, loadCells, loadCellsFrom, storeCells, hc]
theorem run_append_sl {α : Type} {E : Enc α} {P : Program} (w : World) (base : Nat) (t ty : TypeId) (i : TypeInfo) (z : Value) (bytes : Nat) (ht : P.underlying t = some (.slice E.ty)) (hi : P.info? E.ty = some i) (hz : i.zero = some z)
    (hsize : i.size = E.n) (hby : i.bytes = bytes) (hzs : z.cells.size = E.n) (hsz : 0 < E.n)
    (v : Value) (n : Nat) (xs : List Value) (hown : w.ownsRow base E.ty E.n v n xs) (B : Nat) (X : Value) (M : List α) (hX : E.Sl w B X M)
    (h63 : n + M.length ≤ maxLen) (hbytes : (n + M.length) * bytes ≤ 140737488355328) (hbase : base ≤ w.heap.size) :
    ∃ v' w', (Builtin.append_ #[t, t] ty #[v, X]).run P w = .ok v' w' ∧ w'.ownsRow base E.ty E.n v' (n + M.length) (xs ++ E.flat M) ∧ w.grownBy w' v.ownBlock ∧ (v'.ownBlock = v.ownBlock ∨ v'.ownBlock = some w.heap.size) := by
  obtain ⟨a, c, rfl, hcap, hr⟩ := hX
  cases M with
  | nil =>
    have hrun : (Builtin.append_ #[t, t] ty #[v, .slice a ([] : List α).length c]).run P w = .ok v w := by
      rcases hown.2 with ⟨rfl, h0⟩ | ⟨g, cap, cur, rfl, _, _, hn, _⟩
      · exact run_append_zero w t ty E.ty i ht hi _ _ _ _ _ (Nat.le_refl _)
      · exact run_append_zero w t ty E.ty i ht hi _ _ _ _ _ hn
    refine ⟨v, w, hrun, ?_, ⟨rfl, rfl, rfl, Nat.le_refl _, fun _ _ _ => rfl⟩, .inl rfl⟩
    simpa [Enc.flat] using hown
  | cons x M =>
    obtain ⟨g, rfl, _, hrow⟩ := hr (by simp)
    obtain ⟨v', w', h1, h2, h3, _, h5⟩ := run_append_own_at (P := P) w base t ty E.ty i z E.n bytes ht hi hz hsize hby hzs hsz v n xs hown ⟨g, 0, none⟩ (x :: M).length c (E.flat (x :: M)) (E.flat_len _) hrow.src (E.flat_plain _) h63 hbytes hbase
    exact ⟨v', w', h1, h2, h3, h5⟩
end Go.Proofs.YtmpafidkpangeaaGreat
