/- BaseB04: several of our texts in one: DwV DwW DsR DwX DwE DwY DwN DwU DwB DsP DwDraw PhM Iv DwA DwO. -/
import Derived.Test.YtckfklpgnneodaaBaseB03
import Derived.Laws.StructEq
import Derived.Test.YtckfklpgnneodaaRows
import Derived.Test.YtckfklpgnneodaaBaseB02
import Derived.Test.YtckfklpgnneodaaBaseB01
import Derived.Test.YtckfklpgnneodaaBaseB12
import Derived.Lib.SmallJoins
import Derived.OpenShut
namespace Go.Proofs.Ytckfklpgnneodaa
open Go.RowKit
attribute [local irreducible] World.cell?
end Go.Proofs.Ytckfklpgnneodaa
namespace Go.Proofs.Ytckfklpgnneodaa
open Go.RowKit
attribute [local irreducible] World.cell?
set_option maxRecDepth 100000 in
set_option maxHeartbeats 400000 in
theorem lin_yes (x lo hi : Int) (w : World) (h0 : lo ≤ x) (h1 : x ≤ hi) :
    Calls Try.prog 63 #[.int .i64 x, .int .i64 lo, .int .i64 hi] w fun e w' => e = .returned (.bool true) ∧ w = w' := by
  go_enter Try.func63, Try.ntmps63
  go_wp2_with fail
  go_ret
  exact ⟨rfl, rfl⟩
set_option maxRecDepth 100000 in
set_option maxHeartbeats 400000 in
theorem lin_no (x lo hi : Int) (w : World) (h : ¬ (lo ≤ x ∧ x ≤ hi)) :
    Calls Try.prog 63 #[.int .i64 x, .int .i64 lo, .int .i64 hi] w fun e w' => e = .returned (.bool false) ∧ w = w' := by
  have h' : x < lo ∨ hi < x := by omega
  clear h
  rcases h' with h | h
  · have hd : decide (lo ≤ x) = false := by simpa using h
    go_enter Try.func63, Try.ntmps63
    go_wp2_with fail
    go_ret
    exact ⟨rfl, rfl⟩
  · by_cases h0 : lo ≤ x
    · have hd : decide (x ≤ hi) = false := by simpa using h
      go_enter Try.func63, Try.ntmps63
      go_wp2_with fail
      go_ret
      exact ⟨rfl, rfl⟩
    · have hd : decide (lo ≤ x) = false := by simpa using h0
      clear h0
      go_enter Try.func63, Try.ntmps63
      go_wp2_with fail
      go_ret
      exact ⟨rfl, rfl⟩
theorem lin_any (x lo hi : Int) (b : Bool) (w : World) (h : decide (lo ≤ x ∧ x ≤ hi) = b) :
    Calls Try.prog 63 #[.int .i64 x, .int .i64 lo, .int .i64 hi] w fun e w' => e = .returned (.bool b) ∧ w = w' := by
  cases b
  · exact lin_no x lo hi w (by simpa using h)
  · have := of_decide_eq_true h
    exact lin_yes x lo hi w this.1 this.2
end Go.Proofs.Ytckfklpgnneodaa
namespace Go.Proofs.Ytckfklpgnneodaa
open Go.RowKit
/-- The cells of a fraction. -/
def fl (x : Dw) : List Value := [.int .i64 x.n.a, .int .i64 x.n.b, .int .i64 x.n.c, .int .i64 x.n.d, .int .i64 x.e]
/-- The cells of a row. -/
def flat : List Dw → List Value
  | [] => []
  | x :: l => fl x ++ flat l
theorem flat_len : ∀ l : List Dw, (flat l).length = l.length * 5
  | [] => rfl
  | x :: l => by rw [flat, List.length_append, flat_len l, List.length_cons]; simp only [fl, List.length_cons, List.length_nil]; omega
theorem flat_app : ∀ l m : List Dw, flat (l ++ m) = flat l ++ flat m
  | [], m => rfl
  | x :: l, m => by rw [List.cons_append, flat, flat, flat_app l m, List.append_assoc]
theorem flat_at : ∀ {l : List Dw} {j : Nat} {x : Dw}, l[j]? = some x → ∀ k, k < 5 → (flat l)[j * 5 + k]? = (fl x)[k]?
  | [], j, x, h, k, hk => by simp at h
  | y :: l, 0, x, h, k, hk => by
    obtain rfl : y = x := by simpa using h
    rw [flat, List.getElem?_append_left (by simp [fl]; omega)]
    simp
  | y :: l, j + 1, x, h, k, hk => by
    rw [flat, List.getElem?_append_right (by simp [fl]; omega)]
    rw [show (j + 1) * 5 + k - (fl y).length = j * 5 + k by simp [fl]; omega]
    exact flat_at (by simpa using h) k hk
end Go.Proofs.Ytckfklpgnneodaa
namespace Go.Proofs.Ytckfklpgnneodaa
open Go.RowKit
attribute [local irreducible] World.cell?
end Go.Proofs.Ytckfklpgnneodaa
namespace Go.Proofs.Ytckfklpgnneodaa
open Go.RowKit
theorem dw_ext {x y : Dw} (h0 : x.n.a = y.n.a) (h1 : x.n.b = y.n.b) (h2 : x.n.c = y.n.c) (h3 : x.n.d = y.n.d) (h4 : x.e = y.e) : x = y := by
  obtain ⟨⟨a, b, c, d⟩, e⟩ := x
  obtain ⟨⟨p, q, r, s⟩, t⟩ := y
  simp only [] at h0 h1 h2 h3 h4
  subst h0 h1 h2 h3 h4
  rfl
/-- Two fractions are the same, field by field. -/
def eqDB (x y : Dw) : Bool := x.n.a == y.n.a && (x.n.b == y.n.b && (x.n.c == y.n.c && (x.n.d == y.n.d && x.e == y.e)))
theorem eqDB_iff {x y : Dw} : eqDB x y = true ↔ x = y := by
  simp only [eqDB, Bool.and_eq_true, beq_iff_eq]
  exact ⟨fun ⟨h0, h1, h2, h3, h4⟩ => dw_ext h0 h1 h2 h3 h4, fun h => by subst h; exact ⟨rfl, rfl, rfl, rfl, rfl⟩⟩
end Go.Proofs.Ytckfklpgnneodaa
namespace Go.Proofs.Ytckfklpgnneodaa
open Go.RowKit
attribute [local irreducible] World.cell?
end Go.Proofs.Ytckfklpgnneodaa
namespace Go.Proofs.Ytckfklpgnneodaa
open Go.RowKit
attribute [local irreducible] World.cell?
end Go.Proofs.Ytckfklpgnneodaa
namespace Go.Proofs.Ytckfklpgnneodaa
open Go.RowKit
attribute [local irreducible] World.cell?
set_option maxRecDepth 100000 in
set_option maxHeartbeats 400000 in
theorem max_any (a b : Int) (w : World) :
    Calls Try.prog 60 #[.int .i64 a, .int .i64 b] w fun e w' => e = .returned (.int .i64 (if b < a then a else b)) ∧ w = w' := by
  by_cases h : b < a
  · rw [if_pos h]
    go_enter Try.func60, Try.ntmps60
    go_wp2_with fail
    go_ret
    exact ⟨rfl, rfl⟩
  · rw [if_neg h]
    go_enter Try.func60, Try.ntmps60
    go_wp2_with fail
    go_ret
    exact ⟨rfl, rfl⟩
end Go.Proofs.Ytckfklpgnneodaa
namespace Go.Proofs.Ytckfklpgnneodaa
open Go.RowKit
attribute [local irreducible] World.cell?
end Go.Proofs.Ytckfklpgnneodaa
namespace Go.Proofs.Ytckfklpgnneodaa
open Go.RowKit
instance : DecidableEq Dw := fun x y => decidable_of_iff (eqDB x y = true) eqDB_iff
/-- The number of qubits of a state with n amplitudes, or 0. -/
def qc (n : Nat) : Int := if n = 2 then 1 else if n = 4 then 2 else if n = 8 then 3 else if n = 16 then 4 else 0
end Go.Proofs.Ytckfklpgnneodaa
namespace Go.Proofs.Ytckfklpgnneodaa
open Go.RowKit
theorem CurAt.drew {B : Nat} {w : World} (h : CurAt w B) : CurAt w.drew B := h
attribute [local irreducible] World.cell?
set_option maxRecDepth 100000 in
set_option maxHeartbeats 800000 in
theorem pickB (B b n cap : Nat) (l : List Int) (w : World) (hcur : CurAt w B) (hl : ListAt w b n (fun j => .int .i64 (l.getD j 0))) (hne : b ≠ B) (h1 : 1 ≤ n) (h2 : n ≤ 1000000) (hn : n = l.length) (lo hi : Int) (hb : ∀ v ∈ l, lo ≤ v ∧ v ≤ hi) :
    Calls Try.prog 58 #[.pointer (some ⟨B, 0, none⟩), .slice (some ⟨b, 0, none⟩) n cap] w fun e w' => (∃ v : Int, lo ≤ v ∧ v ≤ hi ∧ e = .returned (.int .i64 v)) ∧ CurAt w' B ∧ Own B w w' := by
  refine (pickInt_any B b n cap (fun j => l.getD j 0) w hcur hl hne h1 h2).mono ?_
  rintro e w1 ⟨⟨j, hj, rfl⟩, hc, ho⟩
  have hm : l.getD j 0 ∈ l := by rw [List.getD_eq_getElem?_getD, List.getElem?_eq_getElem (by omega)]; exact List.getElem_mem _
  exact ⟨⟨_, (hb _ hm).1, (hb _ hm).2, rfl⟩, hc, ho⟩
end Go.Proofs.Ytckfklpgnneodaa
namespace Go.Proofs.Ytckfklpgnneodaa
/-- Powers of omega. -/
def phL : List Zw := [⟨1, 0, 0, 0⟩, ⟨0, 1, 0, 0⟩, ⟨0, 0, 1, 0⟩, ⟨0, 0, 0, 1⟩, ⟨-1, 0, 0, 0⟩, ⟨0, -1, 0, 0⟩, ⟨0, 0, -1, 0⟩, ⟨0, 0, 0, -1⟩]
def phN (n : Nat) : Zw := phL.getD n .zero
def dPh (i : Int) : Dw := ⟨phN (i % 8).toNat, 0⟩
instance : DecidableEq Zw := fun x y => decidable_of_iff (x.a = y.a ∧ x.b = y.b ∧ x.c = y.c ∧ x.d = y.d) ⟨fun ⟨h1, h2, h3, h4⟩ => by cases x; cases y; simp_all, fun h => by subst h; exact ⟨rfl, rfl, rfl, rfl⟩⟩
end Go.Proofs.Ytckfklpgnneodaa
namespace Go.Proofs.Ytckfklpgnneodaa
open Go.RowKit
/-- 1 over the k-th power of the root of 2, or zero past the limits. -/
def isV (k : Int) : Dw := if 0 ≤ k ∧ k ≤ 60 then ⟨⟨1, 0, 0, 0⟩, k⟩ else .zero
attribute [local irreducible] World.cell?
end Go.Proofs.Ytckfklpgnneodaa
namespace Go.Proofs.Ytckfklpgnneodaa
open Go.RowKit
attribute [local irreducible] World.cell?
end Go.Proofs.Ytckfklpgnneodaa
namespace Go.Proofs.Ytckfklpgnneodaa
open Go.ChangeShapes Go.WideShapes Go.ChangeAt Go.RowKit Go.Lib Go.Joins
theorem cells_in : Try.prog.cellsOf 3 = 1 := by kernel_rfl
end Go.Proofs.Ytckfklpgnneodaa
