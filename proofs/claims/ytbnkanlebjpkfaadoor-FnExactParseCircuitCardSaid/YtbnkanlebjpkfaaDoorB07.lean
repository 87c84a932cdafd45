/- B07: several of our texts in one: DwV DwW DsR DwX DwY DwN DsL DwU DwB DsP DwDraw Isq ARow Iv DwA. -/
import Derived.Test.YtbnkanlebjpkfaaDoorB09
import Derived.Test.YtbnkanlebjpkfaaDoorB02
import Derived.Laws.StructEq
import Derived.Lib.AppendStr
import Derived.Test.YtbnkanlebjpkfaaDoorRwE
namespace Go.Proofs.YtbnkanlebjpkfaaDoor
open Go.RowKit
attribute [local irreducible] World.cell?
end Go.Proofs.YtbnkanlebjpkfaaDoor
namespace Go.Proofs.YtbnkanlebjpkfaaDoor
open Go.RowKit
attribute [local irreducible] World.cell?
set_option maxRecDepth 100000 in
set_option maxHeartbeats 400000 in
theorem lin_yes (x lo hi : Int) (w : World) (h0 : lo ≤ x) (h1 : x ≤ hi) :
    Calls Tryd.prog 51 #[.int .i64 x, .int .i64 lo, .int .i64 hi] w fun e w' => e = .returned (.bool true) ∧ w = w' := by
  go_enter Tryd.func51, Tryd.ntmps51
  go_wp2_with fail
  go_ret
  exact ⟨rfl, rfl⟩
set_option maxRecDepth 100000 in
set_option maxHeartbeats 400000 in
theorem lin_no (x lo hi : Int) (w : World) (h : ¬ (lo ≤ x ∧ x ≤ hi)) :
    Calls Tryd.prog 51 #[.int .i64 x, .int .i64 lo, .int .i64 hi] w fun e w' => e = .returned (.bool false) ∧ w = w' := by
  have h' : x < lo ∨ hi < x := by omega
  clear h
  rcases h' with h | h
  · have hd : decide (lo ≤ x) = false := by simpa using h
    go_enter Tryd.func51, Tryd.ntmps51
    go_wp2_with fail
    go_ret
    exact ⟨rfl, rfl⟩
  · by_cases h0 : lo ≤ x
    · have hd : decide (x ≤ hi) = false := by simpa using h
      go_enter Tryd.func51, Tryd.ntmps51
      go_wp2_with fail
      go_ret
      exact ⟨rfl, rfl⟩
    · have hd : decide (lo ≤ x) = false := by simpa using h0
      clear h0
      go_enter Tryd.func51, Tryd.ntmps51
      go_wp2_with fail
      go_ret
      exact ⟨rfl, rfl⟩
theorem lin_any (x lo hi : Int) (b : Bool) (w : World) (h : decide (lo ≤ x ∧ x ≤ hi) = b) :
    Calls Tryd.prog 51 #[.int .i64 x, .int .i64 lo, .int .i64 hi] w fun e w' => e = .returned (.bool b) ∧ w = w' := by
  cases b
  · exact lin_no x lo hi w (by simpa using h)
  · have := of_decide_eq_true h
    exact lin_yes x lo hi w this.1 this.2
end Go.Proofs.YtbnkanlebjpkfaaDoor
namespace Go.Proofs.YtbnkanlebjpkfaaDoor
open Go.RowKit
/-- The cells of a fraction. -/
def fl (x : Dw) : List Value := [.int .i64 x.n.a, .int .i64 x.n.b, .int .i64 x.n.c, .int .i64 x.n.d, .int .i64 x.e]
/-- The cells of a row. -/
def flat : List Dw → List Value
  | [] => []
  | x :: l => fl x ++ flat l
theorem flat_len : ∀ l : List Dw, (flat l).length = l.length * 5
  | [] => rfl
  | x :: l => by rw [flat, List.length_append, flat_len l, List.length_cons]; simp only [fl, List.length_cons, List.length_nil]; omega
theorem flat_app : ∀ l m : List Dw, flat (l ++ m) = flat l ++ flat m
  | [], m => rfl
  | x :: l, m => by rw [List.cons_append, flat, flat, flat_app l m, List.append_assoc]
theorem flat_at : ∀ {l : List Dw} {j : Nat} {x : Dw}, l[j]? = some x → ∀ k, k < 5 → (flat l)[j * 5 + k]? = (fl x)[k]?
  | [], j, x, h, k, hk => by simp at h
  | y :: l, 0, x, h, k, hk => by
    obtain rfl : y = x := by simpa using h
    rw [flat, List.getElem?_append_left (by simp [fl]; omega)]
    simp
  | y :: l, j + 1, x, h, k, hk => by
    rw [flat, List.getElem?_append_right (by simp [fl]; omega)]
    rw [show (j + 1) * 5 + k - (fl y).length = j * 5 + k by simp [fl]; omega]
    exact flat_at (by simpa using h) k hk
end Go.Proofs.YtbnkanlebjpkfaaDoor
namespace Go.Proofs.YtbnkanlebjpkfaaDoor
open Go.RowKit
attribute [local irreducible] World.cell?
end Go.Proofs.YtbnkanlebjpkfaaDoor
namespace Go.Proofs.YtbnkanlebjpkfaaDoor
open Go.RowKit
attribute [local irreducible] World.cell?
end Go.Proofs.YtbnkanlebjpkfaaDoor
namespace Go.Proofs.YtbnkanlebjpkfaaDoor
open Go.RowKit
attribute [local irreducible] World.cell?
end Go.Proofs.YtbnkanlebjpkfaaDoor
namespace Go.Proofs.YtbnkanlebjpkfaaDoor
open Go.RowKit
/-- A slice of the laws' fractions that came in. -/
def DsIn (w : World) (B : Nat) (a0 : Option Addr) (l : List Dw) : Prop :=
  l.length ≤ maxLen ∧ (∀ x ∈ l, -9223372036854775808 ≤ x.e ∧ x.e ≤ 9223372036854775807) ∧
  (0 < l.length → ∃ b off, a0 = some ⟨b, off, none⟩ ∧ b < B ∧ ∀ j x, l[j]? = some x → w.cell? ⟨b, off + j * 5, none⟩ = some (.int .i64 x.n.a) ∧ w.cell? ⟨b, off + j * 5 + 1, none⟩ = some (.int .i64 x.n.b) ∧ w.cell? ⟨b, off + j * 5 + 2, none⟩ = some (.int .i64 x.n.c) ∧ w.cell? ⟨b, off + j * 5 + 3, none⟩ = some (.int .i64 x.n.d) ∧ w.cell? ⟨b, off + j * 5 + 4, none⟩ = some (.int .i64 x.e))
theorem DsIn.below {w w' : World} {B : Nat} {a0 : Option Addr} {l : List Dw} (h : DsIn w B a0 l) (hb : Below B w w') : DsIn w' B a0 l :=
  ⟨h.1, h.2.1, fun h0 => by
    obtain ⟨b, off, e, hlt, hc⟩ := h.2.2 h0
    refine ⟨b, off, e, hlt, fun j x hx => ?_⟩
    obtain ⟨c0, c1, c2, c3, c4⟩ := hc j x hx
    exact ⟨(hb.cell (by exact hlt)).trans c0, (hb.cell (by exact hlt)).trans c1, (hb.cell (by exact hlt)).trans c2, (hb.cell (by exact hlt)).trans c3, (hb.cell (by exact hlt)).trans c4⟩⟩
/-- Two elements of rows beside each other. -/
def E2 (w : World) (g g' o : Nat) (x y : Dw) (w' : World) : Prop := w'.cell? ⟨g, o, none⟩ = some (.int .i64 x.n.a) ∧ w'.cell? ⟨g, o + 1, none⟩ = some (.int .i64 x.n.b) ∧ w'.cell? ⟨g, o + 2, none⟩ = some (.int .i64 x.n.c) ∧ w'.cell? ⟨g, o + 3, none⟩ = some (.int .i64 x.n.d) ∧ w'.cell? ⟨g, o + 4, none⟩ = some (.int .i64 x.e) ∧ w'.cell? ⟨g', o, none⟩ = some (.int .i64 y.n.a) ∧ w'.cell? ⟨g', o + 1, none⟩ = some (.int .i64 y.n.b) ∧ w'.cell? ⟨g', o + 2, none⟩ = some (.int .i64 y.n.c) ∧ w'.cell? ⟨g', o + 3, none⟩ = some (.int .i64 y.n.d) ∧ w'.cell? ⟨g', o + 4, none⟩ = some (.int .i64 y.e) ∧ g < w'.heap.size ∧ g' < w'.heap.size ∧ Below w.heap.size w w'
theorem E2.drew {w w' : World} {g g' o : Nat} {x y : Dw} (h : E2 w g g' o x y w') : E2 w g g' o x y w'.drew :=
  let ⟨a0, a1, a2, a3, a4, b0, b1, b2, b3, b4, z, z', l⟩ := h; ⟨a0, a1, a2, a3, a4, b0, b1, b2, b3, b4, z, z', l.drew⟩
theorem E2.below {w w1 w2 : World} {g g' o : Nat} {x y : Dw} (h : E2 w g g' o x y w1) (hb : Below w1.heap.size w1 w2) : E2 w g g' o x y w2 :=
  let ⟨a0, a1, a2, a3, a4, b0, b1, b2, b3, b4, z, z', l⟩ := h
  ⟨cell_below a0 hb z, cell_below a1 hb z, cell_below a2 hb z, cell_below a3 hb z, cell_below a4 hb z, cell_below b0 hb z', cell_below b1 hb z', cell_below b2 hb z', cell_below b3 hb z', cell_below b4 hb z', Nat.lt_of_lt_of_le z hb.size, Nat.lt_of_lt_of_le z' hb.size, below_up l hb l.size⟩
theorem E2.low {w w' : World} {g g' o : Nat} {x y : Dw} (h : E2 w g g' o x y w') : Below w.heap.size w w' := let ⟨_, _, _, _, _, _, _, _, _, _, _, _, l⟩ := h; l
attribute [local irreducible] World.cell?
end Go.Proofs.YtbnkanlebjpkfaaDoor
namespace Go.Proofs.YtbnkanlebjpkfaaDoor
open Go.RowKit
attribute [local irreducible] World.cell?
end Go.Proofs.YtbnkanlebjpkfaaDoor
namespace Go.Proofs.YtbnkanlebjpkfaaDoor
open Go.RowKit
attribute [local irreducible] World.cell?
end Go.Proofs.YtbnkanlebjpkfaaDoor
namespace Go.Proofs.YtbnkanlebjpkfaaDoor
open Go.RowKit
instance : DecidableEq Dw := fun x y => decidable_of_iff (eqDB x y = true) eqDB_iff
end Go.Proofs.YtbnkanlebjpkfaaDoor
namespace Go.Proofs.YtbnkanlebjpkfaaDoor
open Go.RowKit
end Go.Proofs.YtbnkanlebjpkfaaDoor
namespace Go.Proofs.YtbnkanlebjpkfaaDoor
open Go.RowKit
attribute [local irreducible] World.cell?
set_option maxRecDepth 100000 in
set_option maxHeartbeats 400000 in
theorem iisq_yes (n : Int) (w : World) (h : 1 ≤ n ∧ n ≤ 4) :
    Calls Tryd.prog 53 #[.int .i64 n] w fun e w' => e = .returned (.bool true) ∧ w = w' := by
  obtain ⟨h1, h2⟩ := h
  go_enter Tryd.func53, Tryd.ntmps53
  go_wp2_with fail
  go_ret
  exact ⟨rfl, rfl⟩
set_option maxRecDepth 100000 in
set_option maxHeartbeats 400000 in
theorem iisq_no (n : Int) (w : World) (h : ¬ (1 ≤ n ∧ n ≤ 4)) (_ : -9223372036854775808 ≤ n) (_ : n ≤ 9223372036854775807) :
    Calls Tryd.prog 53 #[.int .i64 n] w fun e w' => e = .returned (.bool false) ∧ w = w' := by
  by_cases h1 : n < 1
  · clear h
    go_enter Tryd.func53, Tryd.ntmps53
    go_wp2_with fail
    go_ret
    exact ⟨rfl, rfl⟩
  · have h4 : 4 < n := by omega
    clear h
    go_enter Tryd.func53, Tryd.ntmps53
    go_wp2_with fail
    go_ret
    exact ⟨by first | rfl | (simp; omega), rfl⟩
end Go.Proofs.YtbnkanlebjpkfaaDoor
namespace Go.Proofs.YtbnkanlebjpkfaaDoor
open Go.RowKit
/-- The block g, of whatever type, begins with these integers. -/
def AR (w : World) (g : Nat) (l : List Int) : Prop := ∃ (cs : Array Value) (ty : TypeId), w.heap[g]? = some (.cells cs ty (0, 0)) ∧ cs.toList.take l.length = l.map (Value.int .i64)
theorem AR.lt {w : World} {g : Nat} {l : List Int} (h : AR w g l) : g < w.heap.size := by obtain ⟨cs, ty, h1, _⟩ := h; exact lt_of_block h1
theorem AR.block {w w' : World} {g : Nat} {l : List Int} (h : AR w g l) (hb : w'.heap[g]? = w.heap[g]?) : AR w' g l := by obtain ⟨cs, ty, h1, h2⟩ := h; exact ⟨cs, ty, hb.trans h1, h2⟩
theorem AR.cell {w : World} {g : Nat} {l : List Int} (h : AR w g l) {j : Nat} {x : Int} (hx : l[j]? = some x) : w.cell? ⟨g, j, none⟩ = some (.int .i64 x) := by
  obtain ⟨cs, ty, h1, h2⟩ := h
  have hj : j < l.length := by
    rcases Nat.lt_or_ge j l.length with h' | h'
    · exact h'
    · rw [List.getElem?_eq_none h'] at hx; cases hx
  refine cell_at h1 _ _ ?_
  have e : (cs.toList.take l.length)[j]? = (l.map (Value.int .i64))[j]? := by rw [h2]
  rw [List.getElem?_take, if_pos hj, List.getElem?_map, hx] at e
  rw [← Array.getElem?_toList]; exact e
end Go.Proofs.YtbnkanlebjpkfaaDoor
namespace Go.Proofs.YtbnkanlebjpkfaaDoor
open Go.RowKit
attribute [local irreducible] World.cell?
end Go.Proofs.YtbnkanlebjpkfaaDoor
namespace Go.Proofs.YtbnkanlebjpkfaaDoor
open Go.RowKit
attribute [local irreducible] World.cell?
end Go.Proofs.YtbnkanlebjpkfaaDoor
