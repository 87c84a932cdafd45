/- BaseB06: several of our texts in one: DsL DsP DsQ DwDraw Iv. -/
import Derived.Test.YtlmiebeffdcfhaaGreatUBaseB05
import Derived.Test.YtlmiebeffdcfhaaGreatUDwN
import Derived.Lib.AppendStr
import Derived.Test.YtlmiebeffdcfhaaGreatUBaseB07
import Derived.Test.YtlmiebeffdcfhaaGreatUDwB
import Derived.Test.YtlmiebeffdcfhaaGreatUBaseB22
namespace Go.Proofs.YtlmiebeffdcfhaaGreat
open Go.RowKit
/-- A slice of the laws' fractions that came in. -/
def DsIn (w : World) (B : Nat) (a0 : Option Addr) (l : List Dw) : Prop :=
  l.length ≤ maxLen ∧ (∀ x ∈ l, -9223372036854775808 ≤ x.e ∧ x.e ≤ 9223372036854775807) ∧
  (0 < l.length → ∃ b off, a0 = some ⟨b, off, none⟩ ∧ b < B ∧ ∀ j x, l[j]? = some x → w.cell? ⟨b, off + j * 5, none⟩ = some (.int .i64 x.n.a) ∧ w.cell? ⟨b, off + j * 5 + 1, none⟩ = some (.int .i64 x.n.b) ∧ w.cell? ⟨b, off + j * 5 + 2, none⟩ = some (.int .i64 x.n.c) ∧ w.cell? ⟨b, off + j * 5 + 3, none⟩ = some (.int .i64 x.n.d) ∧ w.cell? ⟨b, off + j * 5 + 4, none⟩ = some (.int .i64 x.e))
theorem DsIn.below {w w' : World} {B : Nat} {a0 : Option Addr} {l : List Dw} (h : DsIn w B a0 l) (hb : Below B w w') : DsIn w' B a0 l :=
  ⟨h.1, h.2.1, fun h0 => by
    obtain ⟨b, off, e, hlt, hc⟩ := h.2.2 h0
    refine ⟨b, off, e, hlt, fun j x hx => ?_⟩
    obtain ⟨c0, c1, c2, c3, c4⟩ := hc j x hx
    exact ⟨(hb.cell (by exact hlt)).trans c0, (hb.cell (by exact hlt)).trans c1, (hb.cell (by exact hlt)).trans c2, (hb.cell (by exact hlt)).trans c3, (hb.cell (by exact hlt)).trans c4⟩⟩
theorem infoDw : (Tryz.prog.info? 70).map (fun i => (i.zero, i.size, i.bytes)) = some (some (.agg #[.int .i64 0, .int .i64 0, .int .i64 0, .int .i64 0, .int .i64 0]), 5, 40) := by kernel_rfl
theorem made_flat (n : Nat) : (madeCells #[.int .i64 0, .int .i64 0, .int .i64 0, .int .i64 0, .int .i64 0] (n * 5)).toList = flat (List.replicate n .zero) := by
  induction n with
  | zero => simp [madeCells, flat]
  | succ n ih =>
    have h : ∀ k, (#[.int .i64 0, .int .i64 0, .int .i64 0, .int .i64 0, .int .i64 0] : Array Value)[(n * 5 + k) % 5]! = (#[.int .i64 0, .int .i64 0, .int .i64 0, .int .i64 0, .int .i64 0] : Array Value)[k % 5]! := by
      intro k; rw [show (n * 5 + k) % 5 = k % 5 by omega]
    rw [List.replicate_succ', flat_app, ← ih, show (n + 1) * 5 = n * 5 + 5 by omega]
    simp only [madeCells, Array.toList_map, Array.toList_range, List.range_add, List.map_append, List.map_map]
    congr 1
    simp only [List.range_succ, List.range_zero, List.nil_append, List.map_append, List.map_cons, List.map_nil, Function.comp_def]
    rw [show (#[.int .i64 0, .int .i64 0, .int .i64 0, .int .i64 0, .int .i64 0] : Array Value).size = 5 from rfl, h 0, h 1, h 2, h 3, h 4]
    rfl
/-- Two elements of rows beside each other. -/
def E2 (w : World) (g g' o : Nat) (x y : Dw) (w' : World) : Prop := w'.cell? ⟨g, o, none⟩ = some (.int .i64 x.n.a) ∧ w'.cell? ⟨g, o + 1, none⟩ = some (.int .i64 x.n.b) ∧ w'.cell? ⟨g, o + 2, none⟩ = some (.int .i64 x.n.c) ∧ w'.cell? ⟨g, o + 3, none⟩ = some (.int .i64 x.n.d) ∧ w'.cell? ⟨g, o + 4, none⟩ = some (.int .i64 x.e) ∧ w'.cell? ⟨g', o, none⟩ = some (.int .i64 y.n.a) ∧ w'.cell? ⟨g', o + 1, none⟩ = some (.int .i64 y.n.b) ∧ w'.cell? ⟨g', o + 2, none⟩ = some (.int .i64 y.n.c) ∧ w'.cell? ⟨g', o + 3, none⟩ = some (.int .i64 y.n.d) ∧ w'.cell? ⟨g', o + 4, none⟩ = some (.int .i64 y.e) ∧ g < w'.heap.size ∧ g' < w'.heap.size ∧ Below w.heap.size w w'
theorem E2.drew {w w' : World} {g g' o : Nat} {x y : Dw} (h : E2 w g g' o x y w') : E2 w g g' o x y w'.drew :=
  let ⟨a0, a1, a2, a3, a4, b0, b1, b2, b3, b4, z, z', l⟩ := h; ⟨a0, a1, a2, a3, a4, b0, b1, b2, b3, b4, z, z', l.drew⟩
theorem E2.below {w w1 w2 : World} {g g' o : Nat} {x y : Dw} (h : E2 w g g' o x y w1) (hb : Below w1.heap.size w1 w2) : E2 w g g' o x y w2 :=
  let ⟨a0, a1, a2, a3, a4, b0, b1, b2, b3, b4, z, z', l⟩ := h
  ⟨cell_below a0 hb z, cell_below a1 hb z, cell_below a2 hb z, cell_below a3 hb z, cell_below a4 hb z, cell_below b0 hb z', cell_below b1 hb z', cell_below b2 hb z', cell_below b3 hb z', cell_below b4 hb z', Nat.lt_of_lt_of_le z hb.size, Nat.lt_of_lt_of_le z' hb.size, below_up l hb l.size⟩
theorem E2.low {w w' : World} {g g' o : Nat} {x y : Dw} (h : E2 w g g' o x y w') : Below w.heap.size w w' := let ⟨_, _, _, _, _, _, _, _, _, _, _, _, l⟩ := h; l
attribute [local irreducible] World.cell?
end Go.Proofs.YtlmiebeffdcfhaaGreat
namespace Go.Proofs.YtlmiebeffdcfhaaGreat
open Go.RowKit
instance : DecidableEq Dw := fun x y => decidable_of_iff (eqDB x y = true) eqDB_iff
/-- The number of qubits of a state with n amplitudes, or 0. -/
def qc (n : Nat) : Int := if n = 2 then 1 else if n = 4 then 2 else if n = 8 then 3 else if n = 16 then 4 else 0
theorem qc_range (n : Nat) : 0 ≤ qc n ∧ qc n ≤ 4 := by unfold qc; repeat' split; all_goals omega
theorem qc_len {n : Nat} (h : 0 < qc n) : n = 2 ∨ n = 4 ∨ n = 8 ∨ n = 16 := by
  unfold qc at h
  repeat' split at h
  all_goals first | omega | simp_all
/-- IsValidState. -/
def stB (l : List Dw) : Bool := l.all okD && decide (0 < qc l.length)
theorem stB_iff {l : List Dw} : stB l = true ↔ (∀ x ∈ l, x.ok) ∧ 0 < qc l.length := by
  unfold stB
  rw [Bool.and_eq_true, List.all_eq_true, decide_eq_true_eq]
  exact ⟨fun h => ⟨fun x hx => okD_true.1 (h.1 x hx), h.2⟩, fun h => ⟨fun x hx => okD_true.2 (h.1 x hx), h.2⟩⟩
theorem stB_len {l : List Dw} (h : stB l = true) : l.length ≤ 16 := by have := qc_len (stB_iff.1 h).2; omega
/-- BasisState. -/
def basisL (n i : Int) : List Dw := if 1 ≤ n ∧ n ≤ 4 ∧ 0 ≤ i ∧ i ≤ 2 ^ n.toNat - 1 then (List.replicate (2 ^ n.toNat) .zero).set i.toNat oneD else []
end Go.Proofs.YtlmiebeffdcfhaaGreat
namespace Go.Proofs.YtlmiebeffdcfhaaGreat
open Go.RowKit
theorem qc_cases (n : Nat) : (n = 2 ∧ qc n = 1) ∨ (n = 4 ∧ qc n = 2) ∨ (n = 8 ∧ qc n = 3) ∨ (n = 16 ∧ qc n = 4) ∨ (n ≠ 2 ∧ n ≠ 4 ∧ n ≠ 8 ∧ n ≠ 16 ∧ qc n = 0) := by
  unfold qc
  by_cases h2 : n = 2
  · simp [h2]
  · by_cases h4 : n = 4
    · simp [h4]
    · by_cases h8 : n = 8
      · simp [h8]
      · by_cases h16 : n = 16
        · simp [h16]
        · simp [h2, h4, h8, h16]
set_option maxRecDepth 100000 in
set_option maxHeartbeats 800000 in
theorem squbits (a : Option Addr) (n cap : Nat) (w : World) :
    Calls Tryz.prog 54 #[.slice a n cap] w fun e w' => e = .returned (.int .i64 (qc n)) ∧ w = w' := by
  rcases qc_cases n with ⟨rfl, h⟩ | ⟨rfl, h⟩ | ⟨rfl, h⟩ | ⟨rfl, h⟩ | ⟨h2, h4, h8, h16, h⟩
  · rw [h]
    go_enter Tryz.func54, Tryz.ntmps54
    go_wp2_with fail
    go_rounds 5
    go_ret
    exact ⟨rfl, rfl⟩
  · rw [h]
    go_enter Tryz.func54, Tryz.ntmps54
    go_wp2_with fail
    go_rounds 5
    go_ret
    exact ⟨rfl, rfl⟩
  · rw [h]
    go_enter Tryz.func54, Tryz.ntmps54
    go_wp2_with fail
    go_rounds 5
    go_ret
    exact ⟨rfl, rfl⟩
  · rw [h]
    go_enter Tryz.func54, Tryz.ntmps54
    go_wp2_with fail
    go_rounds 5
    go_ret
    exact ⟨rfl, rfl⟩
  · rw [h]
    have e2 : ((n : Int) == 2) = false := by simp; omega
    have e4 : ((n : Int) == 4) = false := by simp; omega
    have e8 : ((n : Int) == 8) = false := by simp; omega
    have e16 : ((n : Int) == 16) = false := by simp; omega
    clear h2 h4 h8 h16 h
    go_enter Tryz.func54, Tryz.ntmps54
    go_wp2_with fail
    go_rounds 5
    go_ret
    exact ⟨rfl, rfl⟩
theorem all_take {α : Type} {p : α → Bool} {l : List α} {j : Nat} {x : α} (hx : l[j]? = some x) (h : (l.take j).all p = true) : (l.take (j + 1)).all p = p x := by
  rw [List.take_add_one, hx, List.all_append, h]
  simp
theorem all_no {α : Type} {p : α → Bool} {l : List α} {j : Nat} {x : α} (hx : l[j]? = some x) (h : p x = false) : l.all p = false := by
  rw [List.all_eq_false]
  exact ⟨x, List.mem_of_getElem? hx, by simp [h]⟩
attribute [local irreducible] World.cell?
set_option maxRecDepth 100000 in
set_option maxHeartbeats 1600000 in
theorem svalidSt (B : Nat) (v : Value) (l : List Dw) (w : World) (hv : DSl w B v l) (hm : l.length ≤ 1048576) :
    Calls Tryz.prog 71 #[v] w fun e w' => e = .returned (.bool (stB l)) ∧ Below w.heap.size w w' := by
  obtain ⟨a, cap, rfl, hcap, hr⟩ := hv
  have Hr := Lib.hid hr
  clear hr
  have Hst := Lib.hid (show stB l = (l.all okD && decide (0 < qc l.length)) from rfl)
  generalize stB l = S at *
  have hqr := qc_range l.length
  go_enter Tryz.func71, Tryz.ntmps71
  go_wp2_with fail
  go_loopw [3] (fun i wr => ∃ j : Nat, j ≤ l.length ∧ i = .int .i64 j ∧ Hid ((l.take j).all okD = true) ∧ Hid (Below w.heap.size w wr)) (fun i _ => l.length - (intOf i).toNat)
  case atStart => exact ⟨0, Nat.zero_le _, rfl, Lib.hid (by simp), Below.refl _ _⟩
  case round =>
    obtain ⟨j, hj, rfl, Hall, Hb⟩ := hrel
    by_cases hlt : j < l.length
    · obtain ⟨g, rfl, _, hrow⟩ := Hr.out (by omega)
      obtain ⟨x, hx⟩ : ∃ x, l[j]? = some x := ⟨l[j], List.getElem?_eq_getElem hlt⟩
      have r1 := hrow.below Hb.out hrow.lt
      obtain ⟨c0, c1, c2, c3, c4⟩ := r1.cells hx
      have Hv := Lib.hid (svalidD x wr)
      have Hx := Lib.hid hx
      clear hx r1 hrow
      cases ho : okD x with
      | false =>
        rw [ho] at Hv
        have hS : S = false := by rw [Hst.out, all_no Hx.out ho]; rfl
        subst hS
        go_wp2_with fail
        refine (Hv.out).mono ?_
        rintro e w2 ⟨rfl, hb2⟩
        have Hb2 := Lib.hid (Hb.out.trans (hb2.mono Hb.out.size))
        clear hb2
        go_wp2_with fail
        go_ret
        exact ⟨rfl, Hb2.out⟩
      | true =>
        rw [ho] at Hv
        go_wp2_with fail
        refine (Hv.out).mono ?_
        rintro e w2 ⟨rfl, hb2⟩
        have Hb2 := Lib.hid (Hb.out.trans (hb2.mono Hb.out.size))
        clear hb2
        go_wp2_with fail
        go_roundw
        case rel => exact ⟨j + 1, by omega, by go_num, (all_take Hx.out Hall.out).trans ho, Hb2⟩
        case measure => simp [intOf]; omega
    · obtain rfl : j = l.length := by omega
      have hall : l.all okD = true := by have := Hall.out; rwa [List.take_length] at this
      have hS : S = decide (0 < qc l.length) := by rw [Hst.out, hall]; rfl
      subst hS
      have Hq := Lib.hid (squbits a l.length cap wr)
      go_wp2_with fail
      refine (Hq.out).mono ?_
      rintro e w2 ⟨rfl, rfl⟩
      go_wp2_with fail
      go_ret
      exact ⟨rfl, Hb.out⟩
end Go.Proofs.YtlmiebeffdcfhaaGreat
namespace Go.Proofs.YtlmiebeffdcfhaaGreat
open Go.RowKit
theorem own_far5 {B g : Nat} {a w : World} {u0 u1 u2 u3 u4 : Value} (h : Own B a w) (hp : a.heap.size ≤ g) : Own B a (((((w.setCell ⟨g, 0, none⟩ u0).setCell ⟨g, 1, none⟩ u1).setCell ⟨g, 2, none⟩ u2).setCell ⟨g, 3, none⟩ u3).setCell ⟨g, 4, none⟩ u4) :=
  own_far (own_far4 h hp) (p := ⟨g, 4, none⟩) hp _
theorem CurAt.far5 {B g : Nat} {w : World} {u0 u1 u2 u3 u4 : Value} (h : CurAt w B) (hB : B < g) : CurAt (((((w.setCell ⟨g, 0, none⟩ u0).setCell ⟨g, 1, none⟩ u1).setCell ⟨g, 2, none⟩ u2).setCell ⟨g, 3, none⟩ u3).setCell ⟨g, 4, none⟩ u4) B :=
  h.own (own_set (own_set (own_set (own_set (own_set (own_refl g w) 0 u0) 1 u1) 2 u2) 3 u3) 4 u4) hB
theorem CurAt.drew {B : Nat} {w : World} (h : CurAt w B) : CurAt w.drew B := h
attribute [local irreducible] World.cell?
/-- A fraction is returned, its exponent an int. -/
def DRet (e : Ending) : Prop := ∃ x : Dw, e = .returned (.agg #[.int .i64 x.n.a, .int .i64 x.n.b, .int .i64 x.n.c, .int .i64 x.n.d, .int .i64 x.e]) ∧ -9223372036854775808 ≤ x.e ∧ x.e ≤ 9223372036854775807
theorem dret (x : Dw) (h0 : -9223372036854775808 ≤ x.e) (h1 : x.e ≤ 9223372036854775807) : DRet (.returned (.agg #[.int .i64 x.n.a, .int .i64 x.n.b, .int .i64 x.n.c, .int .i64 x.n.d, .int .i64 x.e])) := ⟨x, rfl, h0, h1⟩
theorem newV_e (n : Zw) (k : Int) : 0 ≤ (newV n k).e ∧ (newV n k).e ≤ 60 := by
  cases h : newB n k
  · rw [show newV n k = .zero from if_neg (by simp [h])]; decide
  · have := newV_ok h; exact ⟨this.2.1, this.2.2.1⟩
set_option maxRecDepth 100000 in
set_option maxHeartbeats 800000 in
theorem pickB (B b n cap : Nat) (l : List Int) (w : World) (hcur : CurAt w B) (hl : ListAt w b n (fun j => .int .i64 (l.getD j 0))) (hne : b ≠ B) (h1 : 1 ≤ n) (h2 : n ≤ 1000000) (hn : n = l.length) (lo hi : Int) (hb : ∀ v ∈ l, lo ≤ v ∧ v ≤ hi) :
    Calls Tryz.prog 47 #[.pointer (some ⟨B, 0, none⟩), .slice (some ⟨b, 0, none⟩) n cap] w fun e w' => (∃ v : Int, lo ≤ v ∧ v ≤ hi ∧ e = .returned (.int .i64 v)) ∧ CurAt w' B ∧ Own B w w' := by
  refine (pickInt_any B b n cap (fun j => l.getD j 0) w hcur hl hne h1 h2).mono ?_
  rintro e w1 ⟨⟨j, hj, rfl⟩, hc, ho⟩
  have hm : l.getD j 0 ∈ l := by rw [List.getD_eq_getElem?_getD, List.getElem?_eq_getElem (by omega)]; exact List.getElem_mem _
  exact ⟨⟨_, (hb _ hm).1, (hb _ hm).2, rfl⟩, hc, ho⟩
def dlist1 : List Int := [0, 1, 59, 60, 61]
theorem dlist1_at (w : World) : ListAt (w.alloc (.cells #[.int .i64 0, .int .i64 1, .int .i64 59, .int .i64 60, .int .i64 61] 3)) w.heap.size 5 (fun j => .int .i64 (dlist1.getD j 0)) := by
  refine zlist_at (heap_alloc_new _ _) 5 _ ?_
  intro j hj
  rcases (show j = 0 ∨ j = 1 ∨ j = 2 ∨ j = 3 ∨ j = 4 by omega) with rfl | rfl | rfl | rfl | rfl <;> rfl
def dlist2 : List Int := [0, 1, 5, 60, 61, -1]
theorem dlist2_at (w : World) : ListAt (w.alloc (.cells #[.int .i64 0, .int .i64 1, .int .i64 5, .int .i64 60, .int .i64 61, .int .i64 (-1)] 3)) w.heap.size 6 (fun j => .int .i64 (dlist2.getD j 0)) := by
  refine zlist_at (heap_alloc_new _ _) 6 _ ?_
  intro j hj
  rcases (show j = 0 ∨ j = 1 ∨ j = 2 ∨ j = 3 ∨ j = 4 ∨ j = 5 by omega) with rfl | rfl | rfl | rfl | rfl | rfl <;> rfl
set_option maxRecDepth 100000 in
set_option maxHeartbeats 1600000 in
theorem dw_any (B : Nat) (w : World) (hcur : CurAt w B) (hB : B < w.heap.size) :
    Calls Tryz.prog 119 #[.pointer (some ⟨B, 0, none⟩)] w fun e w' => DRet e ∧ CurAt w' B ∧ Own B w w' := by
  have Hr0_0 := Lib.hid (heap_alloc_new w (.cells #[.int .i64 0, .int .i64 0, .int .i64 0, .int .i64 0, .int .i64 0] 70))
  have Hc0 := Lib.hid (hcur.own (own_alloc (own_refl w.heap.size w) (.cells #[.int .i64 0, .int .i64 0, .int .i64 0, .int .i64 0, .int .i64 0] 70)) hB)
  have Ho0 := Lib.hid (own_alloc (own_refl B w) (.cells #[.int .i64 0, .int .i64 0, .int .i64 0, .int .i64 0, .int .i64 0] 70))
  have hB0 : B < (w.alloc (.cells #[.int .i64 0, .int .i64 0, .int .i64 0, .int .i64 0, .int .i64 0] 70)).heap.size := by simp; omega
  clear hcur
  have hn0 : w.heap.size ≠ B := by omega
  go_enter Tryz.func119, Tryz.ntmps119
  go_wp2_with fail
  refine (small_any B _ Hc0.out hB0).mono ?_
  rintro e w1 ⟨⟨x, rfl⟩, hc1, ho1⟩
  have hr0 := own_blk ho1 hn0 Hr0_0.out
  have zg0 := lt_of_block hr0
  obtain ⟨c0_0, c0_1, c0_2, c0_3, c0_4⟩ := blk_cells5 hr0
  have f0 := fun o => free_at hr0 o
  have Hq1_0 := Lib.hid hr0
  have Hr1_0 := Lib.hid hr0
  have hBq1 := Nat.lt_of_lt_of_le hB0 ho1.size
  have Hp1 := Lib.hid (own_trans Ho0.out ho1)
  have Hx1 := Lib.hid hc1
  have Hc1 := Lib.hid hc1
  have Ho1 := Lib.hid (own_trans Ho0.out ho1)
  have hB1 := hBq1
  clear hr0
  clear hc1 ho1
  go_wp2_with fail
  refine (below_any B 6 _ Hc1.out (by omega) (by omega)).mono ?_
  rintro e w2 ⟨⟨k, k0, k1, rfl⟩, hc2, ho2⟩
  clear zg0 f0 c0_0 c0_1 c0_2 c0_3 c0_4
  have hr0 := own_blk ho2 hn0 Hr1_0.out
  have zg0 := lt_of_block hr0
  obtain ⟨c0_0, c0_1, c0_2, c0_3, c0_4⟩ := blk_cells5 hr0
  have f0 := fun o => free_at hr0 o
  have Hq2_0 := Lib.hid hr0
  have Hr2_0 := Lib.hid hr0
  have hBq2 := Nat.lt_of_lt_of_le hB1 ho2.size
  have Hp2 := Lib.hid (own_trans Ho1.out ho2)
  have Hx2 := Lib.hid hc2
  have Hc2 := Lib.hid hc2
  have Ho2 := Lib.hid (own_trans Ho1.out ho2)
  have hB2 := hBq2
  clear hr0
  clear hc2 ho2
  have Hn := Lib.hid (fun w => snew_any x k w (by omega) (by omega))
  obtain ⟨e0, e1⟩ := newV_e x k
  generalize newV x k = r at *
  generalize newB x k = t at *
  go_wp2_with fail
  refine (Hn.out _).mono ?_
  rintro e w3 ⟨rfl, hb3⟩
  clear zg0 f0 c0_0 c0_1 c0_2 c0_3 c0_4
  have hr0 := below_blk hb3 (lt_of_block Hr2_0.out) Hr2_0.out
  have zg0 := lt_of_block hr0
  obtain ⟨c0_0, c0_1, c0_2, c0_3, c0_4⟩ := blk_cells5 hr0
  have f0 := fun o => free_at hr0 o
  have Hq3_0 := Lib.hid hr0
  have Hr3_0 := Lib.hid (alloc_blk (.cells #[.int .i64 r.n.a, .int .i64 r.n.b, .int .i64 r.n.c, .int .i64 r.n.d, .int .i64 r.e] 70) hr0)
  have hc3 := Hc2.out.below hb3 hB2
  have ho3 := own_of_below (B := B) hb3
  have hBq3 := Nat.lt_of_lt_of_le hB2 ho3.size
  have Hp3 := Lib.hid (own_trans Ho2.out ho3)
  have Hx3 := Lib.hid hc3
  have Hc3 := Lib.hid (hc3.own (own_alloc (own_refl w3.heap.size w3) (.cells #[.int .i64 r.n.a, .int .i64 r.n.b, .int .i64 r.n.c, .int .i64 r.n.d, .int .i64 r.e] 70)) hBq3)
  have Ho3 := Lib.hid (own_alloc (own_trans Ho2.out ho3) (.cells #[.int .i64 r.n.a, .int .i64 r.n.b, .int .i64 r.n.c, .int .i64 r.n.d, .int .i64 r.e] 70))
  have hB3 : B < (w3.alloc (.cells #[.int .i64 r.n.a, .int .i64 r.n.b, .int .i64 r.n.c, .int .i64 r.n.d, .int .i64 r.e] 70)).heap.size := by simp; omega
  have Hr3_1 := Lib.hid (heap_alloc_new w3 (.cells #[.int .i64 r.n.a, .int .i64 r.n.b, .int .i64 r.n.c, .int .i64 r.n.d, .int .i64 r.e] 70))
  have hn1 : w3.heap.size ≠ B := by omega
  clear hr0
  clear hb3 hc3 ho3
  go_wp2_with fail
  obtain ⟨k0, k1, k2, k3, k4⟩ := blk_cells5 (alloc_blk (.cells #[.int .i64 r.n.a, .int .i64 r.n.b, .int .i64 r.n.c, .int .i64 r.n.d, .int .i64 r.e] 70) (set5_at (u0 := .int .i64 r.n.a) (u1 := .int .i64 r.n.b) (u2 := .int .i64 r.n.c) (u3 := .int .i64 r.n.d) (u4 := .int .i64 r.e) Hq3_0.out))
  refine bodyPost_ret (v := (.agg #[.int .i64 r.n.a, .int .i64 r.n.b, .int .i64 r.n.c, .int .i64 r.n.d, .int .i64 r.e])) (by simp only [results, Tryz.results119]; simp [go_sem, k0, k1, k2, k3, k4]) rfl ⟨dret r (by omega) (by omega), ((Hx3.out.far5 (by omega)).own (own_alloc (own_refl _ _) (.cells #[.int .i64 r.n.a, .int .i64 r.n.b, .int .i64 r.n.c, .int .i64 r.n.d, .int .i64 r.e] 70)) (by simpa [World.setCell] using hBq3)), (own_alloc (own_far5 Hp3.out (Nat.le_refl _)) (.cells #[.int .i64 r.n.a, .int .i64 r.n.b, .int .i64 r.n.c, .int .i64 r.n.d, .int .i64 r.e] 70))⟩
set_option maxRecDepth 100000 in
set_option maxHeartbeats 3200000 in
theorem bent_any (B : Nat) (w : World) (hcur : CurAt w B) (hB : B < w.heap.size) :
    Calls Tryz.prog 85 #[.pointer (some ⟨B, 0, none⟩)] w fun e w' => DRet e ∧ CurAt w' B ∧ Own B w w' := by
  have Hr0_0 := Lib.hid (heap_alloc_new w (.cells #[.int .i64 0, .int .i64 0, .int .i64 0, .int .i64 0, .int .i64 0] 70))
  have Hc0 := Lib.hid (hcur.own (own_alloc (own_refl w.heap.size w) (.cells #[.int .i64 0, .int .i64 0, .int .i64 0, .int .i64 0, .int .i64 0] 70)) hB)
  have Ho0 := Lib.hid (own_alloc (own_refl B w) (.cells #[.int .i64 0, .int .i64 0, .int .i64 0, .int .i64 0, .int .i64 0] 70))
  have hB0 : B < (w.alloc (.cells #[.int .i64 0, .int .i64 0, .int .i64 0, .int .i64 0, .int .i64 0] 70)).heap.size := by simp; omega
  clear hcur
  have hn0 : w.heap.size ≠ B := by omega
  go_enter Tryz.func85, Tryz.ntmps85
  go_wp2_with fail
  refine (below_any B 6 _ Hc0.out (by omega) (by omega)).mono ?_
  rintro e w1 ⟨⟨m, m0, m1, rfl⟩, hc1, ho1⟩
  have hr0 := own_blk ho1 hn0 Hr0_0.out
  have zg0 := lt_of_block hr0
  obtain ⟨c0_0, c0_1, c0_2, c0_3, c0_4⟩ := blk_cells5 hr0
  have f0 := fun o => free_at hr0 o
  have Hq1_0 := Lib.hid hr0
  have Hr1_0 := Lib.hid hr0
  have hBq1 := Nat.lt_of_lt_of_le hB0 ho1.size
  have Hp1 := Lib.hid (own_trans Ho0.out ho1)
  have Hx1 := Lib.hid hc1
  have Hc1 := Lib.hid hc1
  have Ho1 := Lib.hid (own_trans Ho0.out ho1)
  have hB1 := hBq1
  clear hr0
  clear hc1 ho1
  rcases (show m = 0 ∨ m = 1 ∨ 2 ≤ m by omega) with rfl | rfl | hm
  · go_wp2_with fail
    refine (zw_any B _ Hc1.out hB1).mono ?_
    rintro e w2 ⟨⟨x, rfl⟩, hc2, ho2⟩
    clear zg0 f0 c0_0 c0_1 c0_2 c0_3 c0_4
    have hr0 := own_blk ho2 hn0 Hr1_0.out
    have zg0 := lt_of_block hr0
    obtain ⟨c0_0, c0_1, c0_2, c0_3, c0_4⟩ := blk_cells5 hr0
    have f0 := fun o => free_at hr0 o
    have Hq2_0 := Lib.hid hr0
    have Hr2_0 := Lib.hid (alloc_blk (.cells #[.int .i64 0, .int .i64 1, .int .i64 59, .int .i64 60, .int .i64 61] 3) hr0)
    have hBq2 := Nat.lt_of_lt_of_le hB1 ho2.size
    have Hp2 := Lib.hid (own_trans Ho1.out ho2)
    have Hx2 := Lib.hid hc2
    have Hc2 := Lib.hid (hc2.own (own_alloc (own_refl w2.heap.size w2) (.cells #[.int .i64 0, .int .i64 1, .int .i64 59, .int .i64 60, .int .i64 61] 3)) hBq2)
    have Ho2 := Lib.hid (own_alloc (own_trans Ho1.out ho2) (.cells #[.int .i64 0, .int .i64 1, .int .i64 59, .int .i64 60, .int .i64 61] 3))
    have hB2 : B < (w2.alloc (.cells #[.int .i64 0, .int .i64 1, .int .i64 59, .int .i64 60, .int .i64 61] 3)).heap.size := by simp; omega
    have Zl2 := Lib.hid (dlist1_at w2)
    have hm2 : w2.heap.size ≠ B := by omega
    clear hr0
    clear hc2 ho2
    go_wp2_with fail
    refine (pickB B w2.heap.size 5 _ dlist1 _ Hc2.out Zl2.out hm2 (by omega) (by omega) rfl (-1) 61 (by decide)).mono ?_
    rintro e w3 ⟨⟨k, k0, k1, rfl⟩, hc3, ho3⟩
    clear zg0 f0 c0_0 c0_1 c0_2 c0_3 c0_4
    have hr0 := own_blk ho3 hn0 Hr2_0.out
    have zg0 := lt_of_block hr0
    obtain ⟨c0_0, c0_1, c0_2, c0_3, c0_4⟩ := blk_cells5 hr0
    have f0 := fun o => free_at hr0 o
    have Hq3_0 := Lib.hid hr0
    have Hr3_0 := Lib.hid hr0
    have hBq3 := Nat.lt_of_lt_of_le hB2 ho3.size
    have Hp3 := Lib.hid (own_trans Ho2.out ho3)
    have Hx3 := Lib.hid hc3
    have Hc3 := Lib.hid hc3
    have Ho3 := Lib.hid (own_trans Ho2.out ho3)
    have hB3 := hBq3
    clear hr0
    clear hc3 ho3
    have Hn := Lib.hid (fun w => snew_any x k w (by omega) (by omega))
    obtain ⟨e0, e1⟩ := newV_e x k
    generalize newV x k = r at *
    generalize newB x k = t at *
    go_wp2_with fail
    refine (Hn.out _).mono ?_
    rintro e w4 ⟨rfl, hb4⟩
    clear zg0 f0 c0_0 c0_1 c0_2 c0_3 c0_4
    have hr0 := below_blk hb4 (lt_of_block Hr3_0.out) Hr3_0.out
    have zg0 := lt_of_block hr0
    obtain ⟨c0_0, c0_1, c0_2, c0_3, c0_4⟩ := blk_cells5 hr0
    have f0 := fun o => free_at hr0 o
    have Hq4_0 := Lib.hid hr0
    have Hr4_0 := Lib.hid (alloc_blk (.cells #[.int .i64 r.n.a, .int .i64 r.n.b, .int .i64 r.n.c, .int .i64 r.n.d, .int .i64 r.e] 70) hr0)
    have hc4 := Hc3.out.below hb4 hB3
    have ho4 := own_of_below (B := B) hb4
    have hBq4 := Nat.lt_of_lt_of_le hB3 ho4.size
    have Hp4 := Lib.hid (own_trans Ho3.out ho4)
    have Hx4 := Lib.hid hc4
    have Hc4 := Lib.hid (hc4.own (own_alloc (own_refl w4.heap.size w4) (.cells #[.int .i64 r.n.a, .int .i64 r.n.b, .int .i64 r.n.c, .int .i64 r.n.d, .int .i64 r.e] 70)) hBq4)
    have Ho4 := Lib.hid (own_alloc (own_trans Ho3.out ho4) (.cells #[.int .i64 r.n.a, .int .i64 r.n.b, .int .i64 r.n.c, .int .i64 r.n.d, .int .i64 r.e] 70))
    have hB4 : B < (w4.alloc (.cells #[.int .i64 r.n.a, .int .i64 r.n.b, .int .i64 r.n.c, .int .i64 r.n.d, .int .i64 r.e] 70)).heap.size := by simp; omega
    have Hr4_1 := Lib.hid (heap_alloc_new w4 (.cells #[.int .i64 r.n.a, .int .i64 r.n.b, .int .i64 r.n.c, .int .i64 r.n.d, .int .i64 r.e] 70))
    have hn1 : w4.heap.size ≠ B := by omega
    clear hr0
    clear hb4 hc4 ho4
    go_wp2_with fail
    obtain ⟨k0, k1, k2, k3, k4⟩ := blk_cells5 (alloc_blk (.cells #[.int .i64 r.n.a, .int .i64 r.n.b, .int .i64 r.n.c, .int .i64 r.n.d, .int .i64 r.e] 70) (set5_at (u0 := .int .i64 r.n.a) (u1 := .int .i64 r.n.b) (u2 := .int .i64 r.n.c) (u3 := .int .i64 r.n.d) (u4 := .int .i64 r.e) Hq4_0.out))
    refine bodyPost_ret (v := (.agg #[.int .i64 r.n.a, .int .i64 r.n.b, .int .i64 r.n.c, .int .i64 r.n.d, .int .i64 r.e])) (by simp only [results, Tryz.results85]; simp [go_sem, k0, k1, k2, k3, k4]) rfl ⟨dret r (by omega) (by omega), ((Hx4.out.far5 (by omega)).own (own_alloc (own_refl _ _) (.cells #[.int .i64 r.n.a, .int .i64 r.n.b, .int .i64 r.n.c, .int .i64 r.n.d, .int .i64 r.e] 70)) (by simpa [World.setCell] using hBq4)), (own_alloc (own_far5 Hp4.out (Nat.le_refl _)) (.cells #[.int .i64 r.n.a, .int .i64 r.n.b, .int .i64 r.n.c, .int .i64 r.n.d, .int .i64 r.e] 70))⟩
  · go_wp2_with fail
    refine (zw_any B _ Hc1.out hB1).mono ?_
    rintro e w2 ⟨⟨x, rfl⟩, hc2, ho2⟩
    clear zg0 f0 c0_0 c0_1 c0_2 c0_3 c0_4
    have hr0 := own_blk ho2 hn0 Hr1_0.out
    have zg0 := lt_of_block hr0
    obtain ⟨c0_0, c0_1, c0_2, c0_3, c0_4⟩ := blk_cells5 hr0
    have f0 := fun o => free_at hr0 o
    have Hq2_0 := Lib.hid hr0
    have Hr2_0 := Lib.hid (alloc_blk (.cells #[.int .i64 0, .int .i64 1, .int .i64 5, .int .i64 60, .int .i64 61, .int .i64 (-1)] 3) hr0)
    have hBq2 := Nat.lt_of_lt_of_le hB1 ho2.size
    have Hp2 := Lib.hid (own_trans Ho1.out ho2)
    have Hx2 := Lib.hid hc2
    have Hc2 := Lib.hid (hc2.own (own_alloc (own_refl w2.heap.size w2) (.cells #[.int .i64 0, .int .i64 1, .int .i64 5, .int .i64 60, .int .i64 61, .int .i64 (-1)] 3)) hBq2)
    have Ho2 := Lib.hid (own_alloc (own_trans Ho1.out ho2) (.cells #[.int .i64 0, .int .i64 1, .int .i64 5, .int .i64 60, .int .i64 61, .int .i64 (-1)] 3))
    have hB2 : B < (w2.alloc (.cells #[.int .i64 0, .int .i64 1, .int .i64 5, .int .i64 60, .int .i64 61, .int .i64 (-1)] 3)).heap.size := by simp; omega
    have Zl2 := Lib.hid (dlist2_at w2)
    have hm2 : w2.heap.size ≠ B := by omega
    clear hr0
    clear hc2 ho2
    go_wp2_with fail
    refine (pickB B w2.heap.size 6 _ dlist2 _ Hc2.out Zl2.out hm2 (by omega) (by omega) rfl (-1) 61 (by decide)).mono ?_
    rintro e w3 ⟨⟨k, k0, k1, rfl⟩, hc3, ho3⟩
    clear zg0 f0 c0_0 c0_1 c0_2 c0_3 c0_4
    have hr0 := own_blk ho3 hn0 Hr2_0.out
    have zg0 := lt_of_block hr0
    obtain ⟨c0_0, c0_1, c0_2, c0_3, c0_4⟩ := blk_cells5 hr0
    have f0 := fun o => free_at hr0 o
    have Hq3_0 := Lib.hid hr0
    have Hr3_0 := Lib.hid hr0
    have hBq3 := Nat.lt_of_lt_of_le hB2 ho3.size
    have Hp3 := Lib.hid (own_trans Ho2.out ho3)
    have Hx3 := Lib.hid hc3
    have Hc3 := Lib.hid hc3
    have Ho3 := Lib.hid (own_trans Ho2.out ho3)
    have hB3 := hBq3
    clear hr0
    clear hc3 ho3
    go_wp2_with fail
    obtain ⟨k0, k1, k2, k3, k4⟩ := blk_cells5 (set5_at (u0 := .int .i64 x.a) (u1 := .int .i64 x.b) (u2 := .int .i64 x.c) (u3 := .int .i64 x.d) (u4 := .int .i64 k) Hq3_0.out)
    refine bodyPost_ret (v := (.agg #[.int .i64 (Dw.mk x k).n.a, .int .i64 (Dw.mk x k).n.b, .int .i64 (Dw.mk x k).n.c, .int .i64 (Dw.mk x k).n.d, .int .i64 (Dw.mk x k).e])) (by simp only [results, Tryz.results85]; simp [go_sem, k0, k1, k2, k3, k4]) rfl ⟨dret ⟨x, k⟩ (show -9223372036854775808 ≤ k by omega) (show k ≤ 9223372036854775807 by omega), (Hx3.out.far5 (by omega)), (own_far5 Hp3.out (Nat.le_refl _))⟩
  · have hm0 : (m == 0) = false := by simp; omega
    have hm1 : (m == 1) = false := by simp; omega
    have hm2 : decide (m = 0) = false := by simp; omega
    have hm3 : decide (m = 1) = false := by simp; omega
    go_wp2_with fail
    refine (dw_any B _ Hc1.out hB1).mono ?_
    rintro e w2 ⟨⟨r, rfl, e0, e1⟩, hc2, ho2⟩
    clear zg0 f0 c0_0 c0_1 c0_2 c0_3 c0_4
    have hr0 := own_blk ho2 hn0 Hr1_0.out
    have zg0 := lt_of_block hr0
    obtain ⟨c0_0, c0_1, c0_2, c0_3, c0_4⟩ := blk_cells5 hr0
    have f0 := fun o => free_at hr0 o
    have Hq2_0 := Lib.hid hr0
    have Hr2_0 := Lib.hid hr0
    have hBq2 := Nat.lt_of_lt_of_le hB1 ho2.size
    have Hp2 := Lib.hid (own_trans Ho1.out ho2)
    have Hx2 := Lib.hid hc2
    have Hc2 := Lib.hid hc2
    have Ho2 := Lib.hid (own_trans Ho1.out ho2)
    have hB2 := hBq2
    clear hr0
    clear hc2 ho2
    go_wp2_with fail
    obtain ⟨k0, k1, k2, k3, k4⟩ := blk_cells5 (set5_at (u0 := .int .i64 r.n.a) (u1 := .int .i64 r.n.b) (u2 := .int .i64 r.n.c) (u3 := .int .i64 r.n.d) (u4 := .int .i64 r.e) Hq2_0.out)
    refine bodyPost_ret (v := (.agg #[.int .i64 r.n.a, .int .i64 r.n.b, .int .i64 r.n.c, .int .i64 r.n.d, .int .i64 r.e])) (by simp only [results, Tryz.results85]; simp [go_sem, k0, k1, k2, k3, k4]) rfl ⟨dret r e0 e1, (Hx2.out.far5 (by omega)), (own_far5 Hp2.out (Nat.le_refl _))⟩
end Go.Proofs.YtlmiebeffdcfhaaGreat
namespace Go.Proofs.YtlmiebeffdcfhaaGreat
open Go.RowKit
/-- 1 over the k-th power of the root of 2, or zero past the limits. -/
def isV (k : Int) : Dw := if 0 ≤ k ∧ k ≤ 60 then ⟨⟨1, 0, 0, 0⟩, k⟩ else .zero
attribute [local irreducible] World.cell?
set_option maxRecDepth 100000 in
set_option maxHeartbeats 800000 in
theorem sinv (k : Int) (w : World) :
    Calls Tryz.prog 105 #[.int .i64 k] w fun e w' => e = .returned (.agg #[.int .i64 (isV k).n.a, .int .i64 (isV k).n.b, .int .i64 (isV k).n.c, .int .i64 (isV k).n.d, .int .i64 (isV k).e]) ∧ Below w.heap.size w w' := by
  have Hi := Lib.hid (fun w => lin_any k 0 60 (decide (0 ≤ k ∧ k ≤ 60)) w rfl)
  by_cases h : 0 ≤ k ∧ k ≤ 60
  · rw [decide_eq_true h] at Hi
    rw [show isV k = ⟨⟨1, 0, 0, 0⟩, k⟩ from if_pos h]
    clear h
    go_enter Tryz.func105, Tryz.ntmps105
    go_wp2_with fail
    refine (Hi.out _).mono ?_
    rintro e wx ⟨rfl, rfl⟩
    go_wp2_with fail
    refine bodyPost_ret (v := (.agg #[.int .i64 (Dw.mk ⟨1, 0, 0, 0⟩ k).n.a, .int .i64 (Dw.mk ⟨1, 0, 0, 0⟩ k).n.b, .int .i64 (Dw.mk ⟨1, 0, 0, 0⟩ k).n.c, .int .i64 (Dw.mk ⟨1, 0, 0, 0⟩ k).n.d, .int .i64 (Dw.mk ⟨1, 0, 0, 0⟩ k).e])) (by simp [results, Tryz.results105, go_sem]) rfl ⟨rfl, ?_⟩
    go_grown
  · rw [decide_eq_false h] at Hi
    rw [show isV k = .zero from if_neg h]
    clear h
    go_enter Tryz.func105, Tryz.ntmps105
    go_wp2_with fail
    refine (Hi.out _).mono ?_
    rintro e wx ⟨rfl, rfl⟩
    go_wp2_with fail
    refine bodyPost_ret (v := (.agg #[.int .i64 Dw.zero.n.a, .int .i64 Dw.zero.n.b, .int .i64 Dw.zero.n.c, .int .i64 Dw.zero.n.d, .int .i64 Dw.zero.e])) (by simp [results, Tryz.results105, go_sem, Dw.zero, Zw.zero]) rfl ⟨rfl, ?_⟩
    go_grown
end Go.Proofs.YtlmiebeffdcfhaaGreat
