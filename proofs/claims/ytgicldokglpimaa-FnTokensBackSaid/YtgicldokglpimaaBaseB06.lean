/- BaseB06: several of our texts in one: DsL DsP DsQ DwDraw. -/
import Derived.Test.YtgicldokglpimaaBaseB05
import Derived.Test.YtgicldokglpimaaDwN
import Derived.Lib.AppendStr
import Derived.Test.YtgicldokglpimaaBaseB07
import Derived.Test.YtgicldokglpimaaDwB
import Derived.Test.YtgicldokglpimaaBaseB22
namespace Go.Proofs.Ytgicldokglpimaa
open Go.RowKit
/-- A slice of the laws' fractions that came in. -/
def DsIn (w : World) (B : Nat) (a0 : Option Addr) (l : List Dw) : Prop :=
  l.length ≤ maxLen ∧ (∀ x ∈ l, -9223372036854775808 ≤ x.e ∧ x.e ≤ 9223372036854775807) ∧
  (0 < l.length → ∃ b off, a0 = some ⟨b, off, none⟩ ∧ b < B ∧ ∀ j x, l[j]? = some x → w.cell? ⟨b, off + j * 5, none⟩ = some (.int .i64 x.n.a) ∧ w.cell? ⟨b, off + j * 5 + 1, none⟩ = some (.int .i64 x.n.b) ∧ w.cell? ⟨b, off + j * 5 + 2, none⟩ = some (.int .i64 x.n.c) ∧ w.cell? ⟨b, off + j * 5 + 3, none⟩ = some (.int .i64 x.n.d) ∧ w.cell? ⟨b, off + j * 5 + 4, none⟩ = some (.int .i64 x.e))
theorem DsIn.below {w w' : World} {B : Nat} {a0 : Option Addr} {l : List Dw} (h : DsIn w B a0 l) (hb : Below B w w') : DsIn w' B a0 l :=
  ⟨h.1, h.2.1, fun h0 => by
    obtain ⟨b, off, e, hlt, hc⟩ := h.2.2 h0
    refine ⟨b, off, e, hlt, fun j x hx => ?_⟩
    obtain ⟨c0, c1, c2, c3, c4⟩ := hc j x hx
    exact ⟨(hb.cell (by exact hlt)).trans c0, (hb.cell (by exact hlt)).trans c1, (hb.cell (by exact hlt)).trans c2, (hb.cell (by exact hlt)).trans c3, (hb.cell (by exact hlt)).trans c4⟩⟩
theorem made_flat (n : Nat) : (madeCells #[.int .i64 0, .int .i64 0, .int .i64 0, .int .i64 0, .int .i64 0] (n * 5)).toList = flat (List.replicate n .zero) := by
  induction n with
  | zero => simp [madeCells, flat]
  | succ n ih =>
    have h : ∀ k, (#[.int .i64 0, .int .i64 0, .int .i64 0, .int .i64 0, .int .i64 0] : Array Value)[(n * 5 + k) % 5]! = (#[.int .i64 0, .int .i64 0, .int .i64 0, .int .i64 0, .int .i64 0] : Array Value)[k % 5]! := by
      intro k; rw [show (n * 5 + k) % 5 = k % 5 by omega]
    rw [List.replicate_succ', flat_app, ← ih, show (n + 1) * 5 = n * 5 + 5 by omega]
    simp only [madeCells, Array.toList_map, Array.toList_range, List.range_add, List.map_append, List.map_map]
    congr 1
    simp only [List.range_succ, List.range_zero, List.nil_append, List.map_append, List.map_cons, List.map_nil, Function.comp_def]
    rw [show (#[.int .i64 0, .int .i64 0, .int .i64 0, .int .i64 0, .int .i64 0] : Array Value).size = 5 from rfl, h 0, h 1, h 2, h 3, h 4]
    rfl
theorem half_at {l : List Dw} {j : Nat} (h : j < l.length) : (l.take j ++ List.replicate (l.length - j) Dw.zero)[j]? = some .zero := by
  rw [List.getElem?_append_right (by simp; omega), List.getElem?_replicate, if_pos (by simp; omega)]
theorem half_set {l : List Dw} {j : Nat} {x : Dw} (hx : l[j]? = some x) : (l.take j ++ List.replicate (l.length - j) Dw.zero).set j x = l.take (j + 1) ++ List.replicate (l.length - (j + 1)) Dw.zero := by
  have h : j < l.length := by
    rcases Nat.lt_or_ge j l.length with h' | h'
    · exact h'
    · rw [List.getElem?_eq_none h'] at hx; cases hx
  rw [List.set_append_right _ _ (by simp; omega), List.take_add_one, hx]
  rw [show l.length - j = (l.length - (j + 1)) + 1 by omega, List.replicate_succ, show j - (l.take j).length = 0 by simp; omega]
  simp
/-- Two elements of rows beside each other. -/
def E2 (w : World) (g g' o : Nat) (x y : Dw) (w' : World) : Prop := w'.cell? ⟨g, o, none⟩ = some (.int .i64 x.n.a) ∧ w'.cell? ⟨g, o + 1, none⟩ = some (.int .i64 x.n.b) ∧ w'.cell? ⟨g, o + 2, none⟩ = some (.int .i64 x.n.c) ∧ w'.cell? ⟨g, o + 3, none⟩ = some (.int .i64 x.n.d) ∧ w'.cell? ⟨g, o + 4, none⟩ = some (.int .i64 x.e) ∧ w'.cell? ⟨g', o, none⟩ = some (.int .i64 y.n.a) ∧ w'.cell? ⟨g', o + 1, none⟩ = some (.int .i64 y.n.b) ∧ w'.cell? ⟨g', o + 2, none⟩ = some (.int .i64 y.n.c) ∧ w'.cell? ⟨g', o + 3, none⟩ = some (.int .i64 y.n.d) ∧ w'.cell? ⟨g', o + 4, none⟩ = some (.int .i64 y.e) ∧ g < w'.heap.size ∧ g' < w'.heap.size ∧ Below w.heap.size w w'
theorem E2.drew {w w' : World} {g g' o : Nat} {x y : Dw} (h : E2 w g g' o x y w') : E2 w g g' o x y w'.drew :=
  let ⟨a0, a1, a2, a3, a4, b0, b1, b2, b3, b4, z, z', l⟩ := h; ⟨a0, a1, a2, a3, a4, b0, b1, b2, b3, b4, z, z', l.drew⟩
theorem E2.below {w w1 w2 : World} {g g' o : Nat} {x y : Dw} (h : E2 w g g' o x y w1) (hb : Below w1.heap.size w1 w2) : E2 w g g' o x y w2 :=
  let ⟨a0, a1, a2, a3, a4, b0, b1, b2, b3, b4, z, z', l⟩ := h
  ⟨cell_below a0 hb z, cell_below a1 hb z, cell_below a2 hb z, cell_below a3 hb z, cell_below a4 hb z, cell_below b0 hb z', cell_below b1 hb z', cell_below b2 hb z', cell_below b3 hb z', cell_below b4 hb z', Nat.lt_of_lt_of_le z hb.size, Nat.lt_of_lt_of_le z' hb.size, below_up l hb l.size⟩
theorem E2.low {w w' : World} {g g' o : Nat} {x y : Dw} (h : E2 w g g' o x y w') : Below w.heap.size w w' := let ⟨_, _, _, _, _, _, _, _, _, _, _, _, l⟩ := h; l
attribute [local irreducible] World.cell?
end Go.Proofs.Ytgicldokglpimaa
namespace Go.Proofs.Ytgicldokglpimaa
open Go.RowKit
instance : DecidableEq Dw := fun x y => decidable_of_iff (eqDB x y = true) eqDB_iff
/-- The number of qubits of a state with n amplitudes, or 0. -/
def qc (n : Nat) : Int := if n = 2 then 1 else if n = 4 then 2 else if n = 8 then 3 else if n = 16 then 4 else 0
theorem qc_range (n : Nat) : 0 ≤ qc n ∧ qc n ≤ 4 := by unfold qc; repeat' split; all_goals omega
theorem qc_len {n : Nat} (h : 0 < qc n) : n = 2 ∨ n = 4 ∨ n = 8 ∨ n = 16 := by
  unfold qc at h
  repeat' split at h
  all_goals first | omega | simp_all
/-- IsValidState. -/
def stB (l : List Dw) : Bool := l.all okD && decide (0 < qc l.length)
theorem stB_iff {l : List Dw} : stB l = true ↔ (∀ x ∈ l, x.ok) ∧ 0 < qc l.length := by
  unfold stB
  rw [Bool.and_eq_true, List.all_eq_true, decide_eq_true_eq]
  exact ⟨fun h => ⟨fun x hx => okD_true.1 (h.1 x hx), h.2⟩, fun h => ⟨fun x hx => okD_true.2 (h.1 x hx), h.2⟩⟩
theorem stB_len {l : List Dw} (h : stB l = true) : l.length ≤ 16 := by have := qc_len (stB_iff.1 h).2; omega
/-- BasisState. -/
def basisL (n i : Int) : List Dw := if 1 ≤ n ∧ n ≤ 4 ∧ 0 ≤ i ∧ i ≤ 2 ^ n.toNat - 1 then (List.replicate (2 ^ n.toNat) .zero).set i.toNat oneD else []
/-- ScaleState. -/
def scaleB (l : List Dw) (x : Dw) : Bool := stB l && l.all fun y => dMulB y x
def scaleL (l : List Dw) (x : Dw) : List Dw := if scaleB l x then l.map fun y => dMulV y x else []
/-- AddStates. -/
def addSB (u v : List Dw) : Bool := stB u && stB v && decide (u.length = v.length) && (u.zip v).all fun p => dAddB p.1 p.2
def addSL (u v : List Dw) : List Dw := if addSB u v then (u.zip v).map fun p => dAddV p.1 p.2 else []
/-- InnerProduct, of the amplitudes in pairs, from a sum on. -/
def inn : Dw → List (Dw × Dw) → Option Dw
  | s, [] => some s
  | s, p :: r => if dMulB (dConjV p.1) p.2 && dAddB s (dMulV (dConjV p.1) p.2) then inn (dAddV s (dMulV (dConjV p.1) p.2)) r else none
def innO (u v : List Dw) : Option Dw := if stB u && stB v && decide (u.length = v.length) then inn .zero (u.zip v) else none
def innV (u v : List Dw) : Dw := (innO u v).getD .zero
def innB (u v : List Dw) : Bool := (innO u v).isSome
theorem addSL_len (u v : List Dw) : (addSL u v).length ≤ v.length := by
  unfold addSL
  split
  · rw [List.length_map, List.length_zip]; omega
  · exact Nat.zero_le _
theorem scaleL_len (l : List Dw) (x : Dw) : (scaleL l x).length ≤ l.length := by
  unfold scaleL
  split
  · rw [List.length_map]; exact Nat.le_refl _
  · exact Nat.zero_le _
end Go.Proofs.Ytgicldokglpimaa
namespace Go.Proofs.Ytgicldokglpimaa
open Go.RowKit
theorem qc_cases (n : Nat) : (n = 2 ∧ qc n = 1) ∨ (n = 4 ∧ qc n = 2) ∨ (n = 8 ∧ qc n = 3) ∨ (n = 16 ∧ qc n = 4) ∨ (n ≠ 2 ∧ n ≠ 4 ∧ n ≠ 8 ∧ n ≠ 16 ∧ qc n = 0) := by
  unfold qc
  by_cases h2 : n = 2
  · simp [h2]
  · by_cases h4 : n = 4
    · simp [h4]
    · by_cases h8 : n = 8
      · simp [h8]
      · by_cases h16 : n = 16
        · simp [h16]
        · simp [h2, h4, h8, h16]
theorem all_take {α : Type} {p : α → Bool} {l : List α} {j : Nat} {x : α} (hx : l[j]? = some x) (h : (l.take j).all p = true) : (l.take (j + 1)).all p = p x := by
  rw [List.take_add_one, hx, List.all_append, h]
  simp
theorem all_no {α : Type} {p : α → Bool} {l : List α} {j : Nat} {x : α} (hx : l[j]? = some x) (h : p x = false) : l.all p = false := by
  rw [List.all_eq_false]
  exact ⟨x, List.mem_of_getElem? hx, by simp [h]⟩
attribute [local irreducible] World.cell?
end Go.Proofs.Ytgicldokglpimaa
namespace Go.Proofs.Ytgicldokglpimaa
open Go.RowKit
theorem own_far5 {B g : Nat} {a w : World} {u0 u1 u2 u3 u4 : Value} (h : Own B a w) (hp : a.heap.size ≤ g) : Own B a (((((w.setCell ⟨g, 0, none⟩ u0).setCell ⟨g, 1, none⟩ u1).setCell ⟨g, 2, none⟩ u2).setCell ⟨g, 3, none⟩ u3).setCell ⟨g, 4, none⟩ u4) :=
  own_far (own_far4 h hp) (p := ⟨g, 4, none⟩) hp _
theorem CurAt.far5 {B g : Nat} {w : World} {u0 u1 u2 u3 u4 : Value} (h : CurAt w B) (hB : B < g) : CurAt (((((w.setCell ⟨g, 0, none⟩ u0).setCell ⟨g, 1, none⟩ u1).setCell ⟨g, 2, none⟩ u2).setCell ⟨g, 3, none⟩ u3).setCell ⟨g, 4, none⟩ u4) B :=
  h.own (own_set (own_set (own_set (own_set (own_set (own_refl g w) 0 u0) 1 u1) 2 u2) 3 u3) 4 u4) hB
theorem CurAt.drew {B : Nat} {w : World} (h : CurAt w B) : CurAt w.drew B := h
/-- A block of the call's own may be written: no code lies in it. -/
theorem CurAt.set4 {B g : Nat} {W : World} {z0 z1 z2 z3 : Int} {T : TypeId} {u0 u1 u2 u3 : Value} (h : CurAt W B) (hn : g ≠ B) (hk : W.heap[g]? = some (.cells #[.int .i64 z0, .int .i64 z1, .int .i64 z2, .int .i64 z3] T (0, 0))) :
    CurAt ((((W.setCell ⟨g, 0, none⟩ u0).setCell ⟨g, 1, none⟩ u1).setCell ⟨g, 2, none⟩ u2).setCell ⟨g, 3, none⟩ u3) B := by
  obtain ⟨a0, len, cap, i, x, h1, h2, h3⟩ := h
  refine ⟨a0, len, cap, i, x, set4_blk (Ne.symm hn) h1, h2, h3.1, fun h0 => ?_⟩
  obtain ⟨b, off, e, hlt, hc⟩ := h3.2 h0
  have hbg : b ≠ g := by
    rintro rfl
    obtain ⟨v, _, _, hv⟩ := hc 0 h0
    simp only [World.cell?, hk, Nat.add_zero] at hv
    match off, hv with
    | 0, hv => simp at hv
    | 1, hv => simp at hv
    | 2, hv => simp at hv
    | 3, hv => simp at hv
    | n + 4, hv => simp at hv
  refine ⟨b, off, e, hlt, fun j hj => ?_⟩
  obtain ⟨v, v0, v1, hv⟩ := hc j hj
  refine ⟨v, v0, v1, ?_⟩
  rw [World.cell?_of_block (w := W)]
  · exact hv
  · have hs := World.block_lt_of_cell? _ _ hv
    have hx : W.heap[b]? = some W.heap[b] := Array.getElem?_eq_getElem hs
    rw [set4_blk hbg hx, hx]
attribute [local irreducible] World.cell?
/-- A fraction is returned, its exponent an int. -/
def DRet (e : Ending) : Prop := ∃ x : Dw, e = .returned (.agg #[.int .i64 x.n.a, .int .i64 x.n.b, .int .i64 x.n.c, .int .i64 x.n.d, .int .i64 x.e]) ∧ -9223372036854775808 ≤ x.e ∧ x.e ≤ 9223372036854775807
theorem dret (x : Dw) (h0 : -9223372036854775808 ≤ x.e) (h1 : x.e ≤ 9223372036854775807) : DRet (.returned (.agg #[.int .i64 x.n.a, .int .i64 x.n.b, .int .i64 x.n.c, .int .i64 x.n.d, .int .i64 x.e])) := ⟨x, rfl, h0, h1⟩
theorem newV_e (n : Zw) (k : Int) : 0 ≤ (newV n k).e ∧ (newV n k).e ≤ 60 := by
  cases h : newB n k
  · rw [show newV n k = .zero from if_neg (by simp [h])]; decide
  · have := newV_ok h; exact ⟨this.2.1, this.2.2.1⟩
def dlist1 : List Int := [0, 1, 59, 60, 61]
theorem dlist1_at (w : World) : ListAt (w.alloc (.cells #[.int .i64 0, .int .i64 1, .int .i64 59, .int .i64 60, .int .i64 61] 3)) w.heap.size 5 (fun j => .int .i64 (dlist1.getD j 0)) := by
  refine zlist_at (heap_alloc_new _ _) 5 _ ?_
  intro j hj
  rcases (show j = 0 ∨ j = 1 ∨ j = 2 ∨ j = 3 ∨ j = 4 by omega) with rfl | rfl | rfl | rfl | rfl <;> rfl
def dlist2 : List Int := [0, 1, 5, 60, 61, -1]
theorem dlist2_at (w : World) : ListAt (w.alloc (.cells #[.int .i64 0, .int .i64 1, .int .i64 5, .int .i64 60, .int .i64 61, .int .i64 (-1)] 3)) w.heap.size 6 (fun j => .int .i64 (dlist2.getD j 0)) := by
  refine zlist_at (heap_alloc_new _ _) 6 _ ?_
  intro j hj
  rcases (show j = 0 ∨ j = 1 ∨ j = 2 ∨ j = 3 ∨ j = 4 ∨ j = 5 by omega) with rfl | rfl | rfl | rfl | rfl | rfl <;> rfl
def dlist3 : List Int := [0, 1, 2, 3, 8, 60, 61, 64, 120, 121, -1]
theorem dlist3_at (w : World) : ListAt (w.alloc (.cells #[.int .i64 0, .int .i64 1, .int .i64 2, .int .i64 3, .int .i64 8, .int .i64 60, .int .i64 61, .int .i64 64, .int .i64 120, .int .i64 121, .int .i64 (-1)] 3)) w.heap.size 11 (fun j => .int .i64 (dlist3.getD j 0)) := by
  refine zlist_at (heap_alloc_new _ _) 11 _ ?_
  intro j hj
  rcases (show j = 0 ∨ j = 1 ∨ j = 2 ∨ j = 3 ∨ j = 4 ∨ j = 5 ∨ j = 6 ∨ j = 7 ∨ j = 8 ∨ j = 9 ∨ j = 10 by omega) with rfl | rfl | rfl | rfl | rfl | rfl | rfl | rfl | rfl | rfl | rfl <;> rfl
end Go.Proofs.Ytgicldokglpimaa
