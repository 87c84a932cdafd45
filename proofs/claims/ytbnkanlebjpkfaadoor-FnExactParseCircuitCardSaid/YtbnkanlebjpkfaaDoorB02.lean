/- B02: several of our texts in one: ZwV ZwA ZwD ZwM DwM DwM2 ZwE ZwF ZwB DwE Fmt DwO. -/
import Derived.Test.YtbnkanlebjpkfaaDoorB06
import Derived.Test.YtbnkanlebjpkfaaDoorRows
import Derived.WalkKit
import Derived.WalkSpells
import Derived.WalkLawsBesides
import Derived.Lib.Hide
import Derived.OneCell
import Derived.WalkSmall
import Derived.Handy
import Derived.Deep.QuietTactic
import Derived.BigQuiet
import Derived.Laws.StructEq
import Derived.Deep.RegionHeld3
import Derived.Lib.SmallJoins
import Derived.OpenShut
namespace Go.Proofs.YtbnkanlebjpkfaaDoor
open Go.RowKit
attribute [local irreducible] World.cell?
end Go.Proofs.YtbnkanlebjpkfaaDoor
namespace Go.Proofs.YtbnkanlebjpkfaaDoor
open Go.RowKit
attribute [local irreducible] World.cell?
theorem below_up {B : Nat} {w w1 w2 : World} (h1 : Below B w w1) (h2 : Below w1.heap.size w1 w2) (hB : B ≤ w1.heap.size) : Below B w w2 := h1.trans (h2.mono hB)
end Go.Proofs.YtbnkanlebjpkfaaDoor
namespace Go.Proofs.YtbnkanlebjpkfaaDoor
open Go.RowKit
attribute [local irreducible] World.cell?
/-! Plain numbers. -/
end Go.Proofs.YtbnkanlebjpkfaaDoor
namespace Go.Proofs.YtbnkanlebjpkfaaDoor
theorem addB_iff {x y : Zw} : addB x y = true ↔ x.ok ∧ y.ok ∧ (x.add y).ok := by simp [addB]
theorem mulB_iff {x y : Zw} : mulB x y = true ↔ x.ok ∧ y.ok ∧ (x.mul y).ok := by simp [mulB]
theorem addV_of {x y : Zw} (h : addB x y = true) : addV x y = x.add y := if_pos (addB_iff.1 h)
theorem mulV_of {x y : Zw} (h : mulB x y = true) : mulV x y = x.mul y := if_pos (mulB_iff.1 h)
theorem add_mul' (x y z : Zw) : (x.add y).mul z = (x.mul z).add (y.mul z) := by
  simp only [Zw.add, Zw.mul, Zw.mk.injEq, Int.add_mul]; omega
theorem spreads {x y z : Zw} (h1 : addB x y = true) (h2 : mulB x z = true) (h3 : mulB y z = true) (h4 : mulB (addV x y) z = true) (h5 : addB (mulV x z) (mulV y z) = true) :
    mulV (addV x y) z = addV (mulV x z) (mulV y z) := by
  rw [mulV_of h4, addV_of h5, mulV_of h2, mulV_of h3, addV_of h1, add_mul']
end Go.Proofs.YtbnkanlebjpkfaaDoor
namespace Go.Proofs.YtbnkanlebjpkfaaDoor
/-- x times the k-th power of the root of 2. -/
def rootN : Nat → Zw → Zw
  | 0, x => x
  | k + 1, x => rootN k x.root
theorem rootN_add (j k : Nat) (x : Zw) : rootN (j + k) x = rootN k (rootN j x) := by
  induction j generalizing x with
  | zero => rw [Nat.zero_add]; rfl
  | succ j ih => rw [Nat.succ_add]; exact ih x.root
theorem root_inj {x y : Zw} (h : x.root = y.root) : x = y := by
  obtain ⟨a, b, c, d⟩ := x
  obtain ⟨e, f, g, i⟩ := y
  simp only [Zw.root, Zw.mk.injEq] at *
  omega
theorem rootN_inj {k : Nat} {x y : Zw} (h : rootN k x = rootN k y) : x = y := by
  induction k generalizing x y with
  | zero => exact h
  | succ k ih => exact root_inj (ih h)
/-- One fraction has the value of another. -/
def Same (n : Zw) (k : Nat) (m : Zw) (j : Nat) : Prop := rootN j n = rootN k m
theorem Same.symm {n m : Zw} {k j : Nat} (h : Same n k m j) : Same m j n k := Eq.symm h
theorem Same.trans {n m r : Zw} {k j i : Nat} (h : Same n k m j) (h2 : Same m j r i) : Same n k r i := by
  unfold Same at *
  apply rootN_inj (k := j)
  rw [← rootN_add, ← rootN_add, Nat.add_comm i j, Nat.add_comm k j, rootN_add j i, h, rootN_add j k, ← h2, ← rootN_add, ← rootN_add, Nat.add_comm]
theorem Same.up (n : Zw) (k i : Nat) : Same (rootN i n) (k + i) n k := by
  unfold Same; rw [← rootN_add, Nat.add_comm k i]
/-- A fraction: the numerator and the power of the root of 2 below it. -/
structure Dw where
  n : Zw
  e : Int
def Dw.zero : Dw := ⟨.zero, 0⟩
def Dw.ok (x : Dw) : Prop := x.n.ok ∧ 0 ≤ x.e ∧ x.e ≤ 60 ∧ (x.e = 0 ∨ divB x.n = false)
instance (x : Dw) : Decidable x.ok := inferInstanceAs (Decidable (_ ∧ _))
end Go.Proofs.YtbnkanlebjpkfaaDoor
namespace Go.Proofs.YtbnkanlebjpkfaaDoor
end Go.Proofs.YtbnkanlebjpkfaaDoor
namespace Go.Proofs.YtbnkanlebjpkfaaDoor
open Go.RowKit
attribute [local irreducible] World.cell?
end Go.Proofs.YtbnkanlebjpkfaaDoor
namespace Go.Proofs.YtbnkanlebjpkfaaDoor
open Go.RowKit
attribute [local irreducible] World.cell?
end Go.Proofs.YtbnkanlebjpkfaaDoor
namespace Go.Proofs.YtbnkanlebjpkfaaDoor
open Go.RowKit
attribute [local irreducible] World.cell?
end Go.Proofs.YtbnkanlebjpkfaaDoor
namespace Go.Proofs.YtbnkanlebjpkfaaDoor
open Go.RowKit
theorem dw_ext {x y : Dw} (h0 : x.n.a = y.n.a) (h1 : x.n.b = y.n.b) (h2 : x.n.c = y.n.c) (h3 : x.n.d = y.n.d) (h4 : x.e = y.e) : x = y := by
  obtain ⟨⟨a, b, c, d⟩, e⟩ := x
  obtain ⟨⟨p, q, r, s⟩, t⟩ := y
  simp only [] at h0 h1 h2 h3 h4
  subst h0 h1 h2 h3 h4
  rfl
/-- Two fractions are the same, field by field. -/
def eqDB (x y : Dw) : Bool := x.n.a == y.n.a && (x.n.b == y.n.b && (x.n.c == y.n.c && (x.n.d == y.n.d && x.e == y.e)))
theorem eqDB_iff {x y : Dw} : eqDB x y = true ↔ x = y := by
  simp only [eqDB, Bool.and_eq_true, beq_iff_eq]
  exact ⟨fun ⟨h0, h1, h2, h3, h4⟩ => dw_ext h0 h1 h2 h3 h4, fun h => by subst h; exact ⟨rfl, rfl, rfl, rfl, rfl⟩⟩
end Go.Proofs.YtbnkanlebjpkfaaDoor
namespace Go.Proofs.YtbnkanlebjpkfaaDoor
open Go.RowKit
set_option maxRecDepth 100000 in
set_option maxHeartbeats 400000 in
theorem fmt_pos (n : Int) (w : World) (h0 : 0 < n) (h1 : n ≤ 9223372036854775807) :
    Calls Tryd.prog 28 #[.int .i64 n] w fun e w' => e = .returned (.string ⟨(Lib.itoa n).toArray⟩) ∧ Below w.heap.size w w' := by
  have hz : (n == 0) = false := by simp; omega
  have hlt : decide (n < 0) = false := by simp; omega
  have Hi := Lib.hid (show digs n.toNat = Lib.itoa n by rw [digs_pos (by omega), Lib.itoa, if_neg (by omega)])
  have hD : (digs n.toNat).length ≤ 9223372036854775807 := by have := digs_length n.toNat; omega
  go_enter Tryd.func28, Tryd.ntmps28
  go_wp2
  go_loopw [0, 4] (fun m out wr => ∃ (u : Nat) (l : List UInt8), m = .int .i64 u ∧ out = .string ⟨l.toArray⟩ ∧ u ≤ n ∧ digs u ++ l = digs n.toNat ∧ Below w.heap.size w wr) (fun m _ _ => (intOf m).toNat)
  case atStart => exact ⟨n.toNat, [], by rw [show ((n.toNat : Nat) : Int) = n by omega], rfl, by omega, by simp, Below.refl _ _⟩
  case round =>
    obtain ⟨u, l, rfl, rfl, hu, hl, hb⟩ := hrel
    by_cases hu0 : u = 0
    · subst hu0
      go_wp2
      go_ret
      exact ⟨by rw [← Hi.out, ← hl, digs_zero]; rfl, hb⟩
    · have hm : ((u : Int) != 0) = true := by simp; omega
      have hs := congrArg List.length (digs_step hu0)
      have hll := congrArg List.length hl
      simp only [List.length_append, List.length_cons, List.length_nil] at hs hll
      have hsz : 1 + l.length ≤ 9223372036854775807 := by omega
      have Hl := Lib.hid hl
      obtain ⟨x, hx⟩ : ∃ x : UInt8, x = UInt8.ofNat (48 + u % 10) := ⟨_, rfl⟩
      have hc := conv_one x (48 + (u : Int) % 10) (by rw [hx]; simp; omega) wr
      have Hx := Lib.hid hx
      clear hs hll hl hD hx
      go_wp2
      go_roundw
      case rel => exact ⟨u / 10, x :: l, by go_num, by rw [app_one], by omega, by rw [Hx.out, digs_next hu0]; exact Hl.out, hb.alloc (by have := hb.size; omega) _⟩
      case measure => simp [intOf]; omega
set_option maxRecDepth 100000 in
set_option maxHeartbeats 400000 in
theorem fmt_neg (n : Int) (w : World) (h0 : n < 0) (h1 : -9223372036854775808 ≤ n) :
    Calls Tryd.prog 28 #[.int .i64 n] w fun e w' => e = .returned (.string ⟨(Lib.itoa n).toArray⟩) ∧ Below w.heap.size w w' := by
  have hz : (n == 0) = false := by simp; omega
  have hlt : decide (n < 0) = true := by simp; omega
  have Hi := Lib.hid (show 45 :: digs n.natAbs = Lib.itoa n by rw [digs_pos (by omega), Lib.itoa, if_pos (by omega)])
  have hD : (digs n.natAbs).length + 1 ≤ 9223372036854775807 := by have := digs_length' n.natAbs; omega
  go_enter Tryd.func28, Tryd.ntmps28
  go_wp2
  go_loopw [0, 4, 5] (fun m out _ wr => ∃ (u : Nat) (l : List UInt8), m = .int .i64 (-(u : Int)) ∧ out = .string ⟨l.toArray⟩ ∧ u ≤ -n ∧ digs u ++ l = digs n.natAbs ∧ Below w.heap.size w wr) (fun m _ _ _ => (intOf m).natAbs)
  case atStart => exact ⟨n.natAbs, [], by rw [show (-(n.natAbs : Nat) : Int) = n by omega], rfl, by omega, by simp, Below.refl _ _⟩
  case round =>
    obtain ⟨u, l, rfl, rfl, hu, hl, hb⟩ := hrel
    by_cases hu0 : u = 0
    · subst hu0
      have hll := congrArg List.length hl
      rw [digs_zero, List.nil_append] at hll hl
      have hsz : 1 + l.length ≤ 9223372036854775807 := by omega
      have Hl := Lib.hid hl
      clear hll hl hD
      go_wp2
      go_ret
      exact ⟨by rw [← Hi.out, ← Hl.out, ← app_one]; rfl, hb⟩
    · have hm : (-(u : Int) != 0) = true := by simp; omega
      have hs := congrArg List.length (digs_step hu0)
      have hll := congrArg List.length hl
      simp only [List.length_append, List.length_cons, List.length_nil] at hs hll
      have hsz : 1 + l.length ≤ 9223372036854775807 := by omega
      have Hl := Lib.hid hl
      obtain ⟨x, hx⟩ : ∃ x : UInt8, x = UInt8.ofNat (48 + u % 10) := ⟨_, rfl⟩
      have hc := conv_one x (48 + ((u % 10 : Nat) : Int)) (by rw [hx]; simp; omega) wr
      have Hx := Lib.hid hx
      have ht := neg_tmod u
      have hq := neg_tdiv u
      obtain ⟨r, hr⟩ : ∃ r, r = u % 10 := ⟨_, rfl⟩
      obtain ⟨q, hqq⟩ : ∃ q, q = u / 10 := ⟨_, rfl⟩
      rw [← hr] at ht hc
      rw [← hqq] at hq
      have hr10 : r < 10 := by omega
      have hqu : q < u := by omega
      have Hq := Lib.hid hqq
      have Hr := Lib.hid hr
      clear hs hll hl hD hx hr hqq
      by_cases hr0 : r = 0
      · subst hr0
        simp only [Int.natCast_zero, Int.neg_zero, Int.add_zero] at ht hc
        go_wp2
        go_roundw
        case rel => exact ⟨q, x :: l, by go_num, by rw [app_one], by omega, by rw [Hx.out, Hq.out, digs_next hu0]; exact Hl.out, hb.alloc (by have := hb.size; omega) _⟩
        case measure => simp [intOf]; omega
      · have hrn : decide (-(r : Int) < 0) = true := by simp; omega
        go_wp2
        go_roundw
        case rel => exact ⟨q, x :: l, by go_num, by rw [app_one], by omega, by rw [Hx.out, Hq.out, digs_next hu0]; exact Hl.out, hb.alloc (by have := hb.size; omega) _⟩
        case measure => simp [intOf]; omega
theorem fmt_zero (w : World) :
    Calls Tryd.prog 28 #[.int .i64 0] w fun e w' => e = .returned (.string ⟨(Lib.itoa 0).toArray⟩) ∧ Below w.heap.size w w' := by
  have H := Lib.hid (show Lib.itoa 0 = [48] by rw [Lib.itoa, if_neg (by omega), Lib.decDigits]; rfl)
  go_enter Tryd.func28, Tryd.ntmps28
  go_wp2
  go_ret
  exact ⟨by rw [H.out]; rfl, Below.refl _ _⟩
/-- spec.FormatInt at every int. -/
theorem fmt_any (n : Int) (w : World) (h0 : -9223372036854775808 ≤ n) (h1 : n ≤ 9223372036854775807) :
    Calls Tryd.prog 28 #[.int .i64 n] w fun e w' => e = .returned (.string ⟨(Lib.itoa n).toArray⟩) ∧ Below w.heap.size w w' := by
  rcases Int.lt_trichotomy n 0 with h | h | h
  · exact fmt_neg n w h h0
  · subst h; exact fmt_zero w
  · exact fmt_pos n w h h1
end Go.Proofs.YtbnkanlebjpkfaaDoor
namespace Go.Proofs.YtbnkanlebjpkfaaDoor
open Go.ChangeShapes Go.WideShapes Go.ChangeAt Go.RowKit Go.Lib Go.Joins
theorem cells_in : Tryd.prog.cellsOf 3 = 1 := by kernel_rfl
end Go.Proofs.YtbnkanlebjpkfaaDoor
