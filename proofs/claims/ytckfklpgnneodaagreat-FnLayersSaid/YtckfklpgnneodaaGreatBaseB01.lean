/- BaseB01: several of our texts in one: Zw ZwV ZwA Heap Cur Draw1 Set1 OpAt. -/
import Derived.Test.YtckfklpgnneodaaGreatRows
import Derived.WalkKit
import Derived.WalkSpells
import Derived.WalkLawsBesides
import Derived.Lib.Hide
import Derived.OneCell
import Derived.WalkSmall
import Derived.Handy
import Derived.Deep.QuietTactic
import Derived.BigQuiet
import Derived.OpenShut
/- The ring Z[omega] in plain integers: what is valid, the sum, the product, the two conjugates, division by the square root of 2. -/
namespace Go.Proofs.YtckfklpgnneodaaGreat
structure Zw where
  a : Int
  b : Int
  c : Int
  d : Int
theorem Zw.ext4 {x y : Zw} (ha : x.a = y.a) (hb : x.b = y.b) (hc : x.c = y.c) (hd : x.d = y.d) : x = y := by
  cases x; cases y; simp_all
/-- One coefficient is within the limit. -/
def Near (n : Int) : Prop := -1073741824 ≤ n ∧ n ≤ 1073741824
instance (n : Int) : Decidable (Near n) := inferInstanceAs (Decidable (_ ∧ _))
def Zw.ok (x : Zw) : Prop := Near x.a ∧ Near x.b ∧ Near x.c ∧ Near x.d
instance (x : Zw) : Decidable x.ok := inferInstanceAs (Decidable (_ ∧ _))
/-- An integer of 64 bits. -/
def I64 (n : Int) : Prop := -9223372036854775808 ≤ n ∧ n ≤ 9223372036854775807
def Zw.i64 (x : Zw) : Prop := I64 x.a ∧ I64 x.b ∧ I64 x.c ∧ I64 x.d
def okB (x : Zw) : Bool := decide x.ok
theorem okB_true {x : Zw} : okB x = true ↔ x.ok := by simp [okB]
theorem okB_false {x : Zw} : okB x = false ↔ ¬ x.ok := by simp [okB]
def Zw.zero : Zw := ⟨0, 0, 0, 0⟩
def Zw.add (x y : Zw) : Zw := ⟨x.a + y.a, x.b + y.b, x.c + y.c, x.d + y.d⟩
def Zw.neg (x : Zw) : Zw := ⟨-x.a, -x.b, -x.c, -x.d⟩
def Zw.mul (x y : Zw) : Zw := ⟨x.a * y.a - x.b * y.d - x.c * y.c - x.d * y.b, x.a * y.b + x.b * y.a - x.c * y.d - x.d * y.c, x.a * y.c + x.b * y.b + x.c * y.a - x.d * y.d, x.a * y.d + x.b * y.c + x.c * y.b + x.d * y.a⟩
/-- x times the square root of 2. -/
def Zw.root (x : Zw) : Zw := ⟨x.b - x.d, x.a + x.c, x.b + x.d, x.c - x.a⟩
def Zw.even (x : Zw) : Prop := x.a % 2 = 0 ∧ x.b % 2 = 0 ∧ x.c % 2 = 0 ∧ x.d % 2 = 0
instance (x : Zw) : Decidable x.even := inferInstanceAs (Decidable (_ ∧ _))
def Zw.half (x : Zw) : Zw := ⟨x.a / 2, x.b / 2, x.c / 2, x.d / 2⟩
/-- What the functions of the chapter return. -/
def addB (x y : Zw) : Bool := decide (x.ok ∧ y.ok ∧ (x.add y).ok)
def addV (x y : Zw) : Zw := if x.ok ∧ y.ok ∧ (x.add y).ok then x.add y else .zero
def mulB (x y : Zw) : Bool := decide (x.ok ∧ y.ok ∧ (x.mul y).ok)
def mulV (x y : Zw) : Zw := if x.ok ∧ y.ok ∧ (x.mul y).ok then x.mul y else .zero
def negV (x : Zw) : Zw := if x.ok then x.neg else .zero
def divB (x : Zw) : Bool := decide (x.ok ∧ x.root.even)
def divV (x : Zw) : Zw := if x.ok ∧ x.root.even then x.root.half else .zero
theorem Near.i64 {n : Int} (h : Near n) : I64 n := by unfold Near at h; unfold I64; omega
theorem Zw.ok.i64 {x : Zw} (h : x.ok) : x.i64 := ⟨h.1.i64, h.2.1.i64, h.2.2.1.i64, h.2.2.2.i64⟩
/-- A product of two coefficients. -/
theorem near_mul {a b : Int} (ha : Near a) (hb : Near b) : -1152921504606846976 ≤ a * b ∧ a * b ≤ 1152921504606846976 := by
  unfold Near at ha hb
  have h1 : 0 ≤ (1073741824 - a) * (1073741824 + b) := Int.mul_nonneg (by omega) (by omega)
  have h2 : 0 ≤ (1073741824 + a) * (1073741824 - b) := Int.mul_nonneg (by omega) (by omega)
  have h3 : 0 ≤ (1073741824 + a) * (1073741824 + b) := Int.mul_nonneg (by omega) (by omega)
  have h4 : 0 ≤ (1073741824 - a) * (1073741824 - b) := Int.mul_nonneg (by omega) (by omega)
  simp only [Int.mul_add, Int.add_mul, Int.mul_sub, Int.sub_mul] at h1 h2 h3 h4
  omega
end Go.Proofs.YtckfklpgnneodaaGreat
namespace Go.Proofs.YtckfklpgnneodaaGreat
open Go.RowKit
attribute [local irreducible] World.cell?
theorem bcell {W w1 : World} (hb : Below W.heap.size W w1) : (∀ b o, b < W.heap.size → w1.cell? ⟨b, o, none⟩ = W.cell? ⟨b, o, none⟩) ∧ (∀ b o, b < W.heap.size → w1.frozen? ⟨b, o, none⟩ = W.frozen? ⟨b, o, none⟩) :=
  ⟨fun b o h => hb.cell (p := ⟨b, o, none⟩) h, fun b o h => hb.frozen (p := ⟨b, o, none⟩) h⟩
set_option maxRecDepth 100000 in
set_option maxHeartbeats 400000 in
theorem coefs (x : Zw) (w : World) :
    Calls Tryz.prog 141 #[(.agg #[.int .i64 x.a, .int .i64 x.b, .int .i64 x.c, .int .i64 x.d])] w fun e w' => e = .returned (.agg #[.int .i64 x.a, .int .i64 x.b, .int .i64 x.c, .int .i64 x.d]) ∧ Below w.heap.size w w' := by
  go_enter Tryz.func141, Tryz.ntmps141
  go_wp2_with fail
  go_returns
  exact ⟨rfl, by go_grown⟩
theorem idx4 (a b c d : Value) (w : World) :
    (Instr.index 164 (.agg #[a, b, c, d]) (.int .i64 0)).run Tryz.prog w = .ok a w ∧
    (Instr.index 164 (.agg #[a, b, c, d]) (.int .i64 1)).run Tryz.prog w = .ok b w ∧
    (Instr.index 164 (.agg #[a, b, c, d]) (.int .i64 2)).run Tryz.prog w = .ok c w ∧
    (Instr.index 164 (.agg #[a, b, c, d]) (.int .i64 3)).run Tryz.prog w = .ok d w :=
  ⟨by kernel_rfl, by kernel_rfl, by kernel_rfl, by kernel_rfl⟩
set_option maxRecDepth 100000 in
set_option maxHeartbeats 800000 in
theorem ivalid_yes (x : Zw) (w : World) (h : x.ok) :
    Calls Tryz.prog 125 #[(.agg #[.int .i64 x.a, .int .i64 x.b, .int .i64 x.c, .int .i64 x.d])] w fun e w' => e = .returned (.bool true) ∧ Below w.heap.size w w' := by
  obtain ⟨a, b, c, d⟩ := x
  obtain ⟨⟨a0, a1⟩, ⟨b0, b1⟩, ⟨c0, c1⟩, ⟨d0, d1⟩⟩ := h
  simp only [] at a0 a1 b0 b1 c0 c1 d0 d1
  go_enter Tryz.func125, Tryz.ntmps125
  go_wp2_with fail
  refine (coefs ⟨a, b, c, d⟩ _).mono ?_
  rintro e w1 ⟨rfl, hb1⟩
  have hb2 := ((Below.refl _ _).alloc (Nat.le_refl _) _).trans (hb1.mono (by simp))
  obtain ⟨i0, i1, i2, i3⟩ := idx4 (.int .i64 a) (.int .i64 b) (.int .i64 c) (.int .i64 d) w1
  have Hb := Lib.hid hb2
  clear hb1 hb2
  go_wp2_with fail
  go_rounds 5
  go_returns
  exact ⟨rfl, Hb.out⟩
set_option maxRecDepth 100000 in
set_option maxHeartbeats 800000 in
theorem ivalid_no (x : Zw) (w : World) (h : ¬ x.ok) :
    Calls Tryz.prog 125 #[(.agg #[.int .i64 x.a, .int .i64 x.b, .int .i64 x.c, .int .i64 x.d])] w fun e w' => e = .returned (.bool false) ∧ Below w.heap.size w w' := by
  obtain ⟨a, b, c, d⟩ := x
  have h' : ¬ (Near a ∧ Near b ∧ Near c ∧ Near d) := h
  simp only [Near] at h'
  clear h
  have H := Lib.hid h'
  clear h'
  go_enter Tryz.func125, Tryz.ntmps125
  go_wp2_with fail
  refine (coefs ⟨a, b, c, d⟩ _).mono ?_
  rintro e w1 ⟨rfl, hb1⟩
  have hb2 := ((Below.refl _ _).alloc (Nat.le_refl _) _).trans (hb1.mono (by simp))
  obtain ⟨i0, i1, i2, i3⟩ := idx4 (.int .i64 a) (.int .i64 b) (.int .i64 c) (.int .i64 d) w1
  have Hb := Lib.hid hb2
  clear hb1 hb2
  go_wp2_with fail
  go_rounds 5
  all_goals go_returns
  all_goals first
    | exact ⟨rfl, Hb.out⟩
    | (exfalso; have := H.out; omega)
theorem ivalid_any (x : Zw) (b : Bool) (w : World) (h : okB x = b) :
    Calls Tryz.prog 125 #[(.agg #[.int .i64 x.a, .int .i64 x.b, .int .i64 x.c, .int .i64 x.d])] w fun e w' => e = .returned (.bool b) ∧ Below w.heap.size w w' := by
  cases b
  · exact ivalid_no x w (okB_false.1 h)
  · exact ivalid_yes x w (okB_true.1 h)
set_option maxRecDepth 100000 in
set_option maxHeartbeats 400000 in
theorem near_yes (n : Int) (w : World) (h : Near n) :
    Calls Tryz.prog 122 #[.int .i64 n] w fun e w' => e = .returned (.bool true) ∧ w = w' := by
  obtain ⟨h0, h1⟩ := h
  go_enter Tryz.func122, Tryz.ntmps122
  go_wp2_with (go_at_call 22; go_in)
  go_ret
  exact ⟨rfl, rfl⟩
set_option maxRecDepth 100000 in
set_option maxHeartbeats 400000 in
theorem near_no (n : Int) (w : World) (h : ¬ Near n) :
    Calls Tryz.prog 122 #[.int .i64 n] w fun e w' => e = .returned (.bool false) ∧ w = w' := by
  have h' : n < -1073741824 ∨ 1073741824 < n := by unfold Near at h; omega
  clear h
  rcases h' with h | h
  · go_enter Tryz.func122, Tryz.ntmps122
    go_wp2_with (go_at_call 22; go_in)
    go_ret
    exact ⟨rfl, rfl⟩
  · have h0 : -1073741824 ≤ n := by omega
    have hd : decide (n ≤ 1073741824) = false := by simpa using h
    go_enter Tryz.func122, Tryz.ntmps122
    go_wp2_with (go_at_call 22; go_in)
    go_ret
    exact ⟨rfl, rfl⟩
set_option maxRecDepth 100000 in
set_option maxHeartbeats 800000 in
theorem svalid_yes (x : Zw) (w : World) (h : x.ok) :
    Calls Tryz.prog 89 #[(.agg #[.int .i64 x.a, .int .i64 x.b, .int .i64 x.c, .int .i64 x.d])] w fun e w' => e = .returned (.bool true) ∧ Below w.heap.size w w' := by
  obtain ⟨a, b, c, d⟩ := x
  obtain ⟨ha, hb, hc, hd⟩ := h
  have Ha := Lib.hid ha
  have Hb := Lib.hid hb
  have Hc := Lib.hid hc
  have Hd := Lib.hid hd
  clear ha hb hc hd
  simp only [] at Ha Hb Hc Hd
  go_enter Tryz.func89, Tryz.ntmps89
  go_wp2_with fail
  refine (near_yes a _ Ha.out).mono ?_
  rintro e w1 ⟨rfl, rfl⟩
  go_wp2_with fail
  refine (near_yes b _ Hb.out).mono ?_
  rintro e w1 ⟨rfl, rfl⟩
  go_wp2_with fail
  refine (near_yes c _ Hc.out).mono ?_
  rintro e w1 ⟨rfl, rfl⟩
  go_wp2_with fail
  refine (near_yes d _ Hd.out).mono ?_
  rintro e w1 ⟨rfl, rfl⟩
  go_wp2_with fail
  go_returns
  exact ⟨rfl, by go_grown⟩
set_option maxRecDepth 100000 in
set_option maxHeartbeats 1600000 in
theorem svalid_no (x : Zw) (w : World) (h : ¬ x.ok) :
    Calls Tryz.prog 89 #[(.agg #[.int .i64 x.a, .int .i64 x.b, .int .i64 x.c, .int .i64 x.d])] w fun e w' => e = .returned (.bool false) ∧ Below w.heap.size w w' := by
  obtain ⟨a, b, c, d⟩ := x
  have H : Near a → Near b → Near c → ¬ Near d := fun p q r s => h ⟨p, q, r, s⟩
  clear h
  have Hd := Lib.hid H
  clear H
  go_enter Tryz.func89, Tryz.ntmps89
  go_wp2_with fail
  by_cases ha : Near a
  · have Ha := Lib.hid ha
    clear ha
    refine (near_yes a _ Ha.out).mono ?_
    rintro e w1 ⟨rfl, rfl⟩
    go_wp2_with fail
    by_cases hb : Near b
    · have Hb := Lib.hid hb
      clear hb
      refine (near_yes b _ Hb.out).mono ?_
      rintro e w1 ⟨rfl, rfl⟩
      go_wp2_with fail
      by_cases hc : Near c
      · have Hc := Lib.hid hc
        clear hc
        refine (near_yes c _ Hc.out).mono ?_
        rintro e w1 ⟨rfl, rfl⟩
        go_wp2_with fail
        refine (near_no d _ (Hd.out Ha.out Hb.out Hc.out)).mono ?_
        rintro e w1 ⟨rfl, rfl⟩
        go_wp2_with fail
        go_returns
        exact ⟨rfl, by go_grown⟩
      · refine (near_no c _ hc).mono ?_
        rintro e w1 ⟨rfl, rfl⟩
        clear hc
        go_wp2_with fail
        go_returns
        exact ⟨rfl, by go_grown⟩
    · refine (near_no b _ hb).mono ?_
      rintro e w1 ⟨rfl, rfl⟩
      clear hb
      go_wp2_with fail
      go_returns
      exact ⟨rfl, by go_grown⟩
  · refine (near_no a _ ha).mono ?_
    rintro e w1 ⟨rfl, rfl⟩
    clear ha
    go_wp2_with fail
    go_returns
    exact ⟨rfl, by go_grown⟩
theorem svalid_any (x : Zw) (b : Bool) (w : World) (h : okB x = b) :
    Calls Tryz.prog 89 #[(.agg #[.int .i64 x.a, .int .i64 x.b, .int .i64 x.c, .int .i64 x.d])] w fun e w' => e = .returned (.bool b) ∧ Below w.heap.size w w' := by
  cases b
  · exact svalid_no x w (okB_false.1 h)
  · exact svalid_yes x w (okB_true.1 h)
end Go.Proofs.YtckfklpgnneodaaGreat
namespace Go.Proofs.YtckfklpgnneodaaGreat
open Go.RowKit
attribute [local irreducible] World.cell?
theorem below_up {B : Nat} {w w1 w2 : World} (h1 : Below B w w1) (h2 : Below w1.heap.size w1 w2) (hB : B ≤ w1.heap.size) : Below B w w2 := h1.trans (h2.mono hB)
set_option maxRecDepth 100000 in
set_option maxHeartbeats 800000 in
theorem ineg_yes (x : Zw) (w : World) (h : x.ok) :
    Calls Tryz.prog 144 #[(.agg #[.int .i64 x.a, .int .i64 x.b, .int .i64 x.c, .int .i64 x.d])] w fun e w' => e = .returned (.agg #[.int .i64 x.neg.a, .int .i64 x.neg.b, .int .i64 x.neg.c, .int .i64 x.neg.d]) ∧ Below w.heap.size w w' := by
  obtain ⟨a, b, c, d⟩ := x
  have Hv := Lib.hid (okB_true.2 h)
  obtain ⟨⟨a0, a1⟩, ⟨b0, b1⟩, ⟨c0, c1⟩, ⟨d0, d1⟩⟩ := h
  simp only [] at a0 a1 b0 b1 c0 c1 d0 d1
  go_enter Tryz.func144, Tryz.ntmps144
  go_wp2_with fail
  refine (ivalid_any ⟨a, b, c, d⟩ true _ Hv.out).mono ?_
  rintro e w1 ⟨rfl, hb1⟩
  have hs1 := hb1.size
  simp at hs1
  obtain ⟨hc, hf⟩ := bcell hb1
  go_wp2_with fail
  refine bodyPost_ret (v := (.agg #[.int .i64 ((Zw.mk a b c d).neg).a, .int .i64 ((Zw.mk a b c d).neg).b, .int .i64 ((Zw.mk a b c d).neg).c, .int .i64 ((Zw.mk a b c d).neg).d])) (by simp [results, Tryz.results144, go_sem, hc, Zw.neg]) rfl ⟨rfl, ?_⟩
  have hb2 := below_up (B := w.heap.size) (w := w) (by go_grown) hb1 (by simp; omega)
  go_grown
set_option maxRecDepth 100000 in
set_option maxHeartbeats 800000 in
theorem ineg_no (x : Zw) (w : World) (h : ¬ x.ok) :
    Calls Tryz.prog 144 #[(.agg #[.int .i64 x.a, .int .i64 x.b, .int .i64 x.c, .int .i64 x.d])] w fun e w' => e = .returned (.agg #[.int .i64 Zw.zero.a, .int .i64 Zw.zero.b, .int .i64 Zw.zero.c, .int .i64 Zw.zero.d]) ∧ Below w.heap.size w w' := by
  obtain ⟨a, b, c, d⟩ := x
  have Hv := Lib.hid (okB_false.2 h)
  clear h
  go_enter Tryz.func144, Tryz.ntmps144
  go_wp2_with fail
  refine (ivalid_any ⟨a, b, c, d⟩ false _ Hv.out).mono ?_
  rintro e w1 ⟨rfl, hb1⟩
  have hs1 := hb1.size
  simp at hs1
  obtain ⟨hc, hf⟩ := bcell hb1
  go_wp2_with fail
  refine bodyPost_ret (v := (.agg #[.int .i64 Zw.zero.a, .int .i64 Zw.zero.b, .int .i64 Zw.zero.c, .int .i64 Zw.zero.d])) (by simp [results, Tryz.results144, go_sem, hc, Zw.zero]) rfl ⟨rfl, ?_⟩
  have hb2 := below_up (B := w.heap.size) (w := w) (by go_grown) hb1 (by simp; omega)
  go_grown
theorem ineg_any (x : Zw) (w : World) :
    Calls Tryz.prog 144 #[(.agg #[.int .i64 x.a, .int .i64 x.b, .int .i64 x.c, .int .i64 x.d])] w fun e w' => e = .returned (.agg #[.int .i64 (negV x).a, .int .i64 (negV x).b, .int .i64 (negV x).c, .int .i64 (negV x).d]) ∧ Below w.heap.size w w' := by
  unfold negV
  by_cases h : x.ok
  · rw [if_pos h]; exact ineg_yes x w h
  · rw [if_neg h]; exact ineg_no x w h
set_option maxRecDepth 100000 in
set_option maxHeartbeats 800000 in
theorem sneg_yes (x : Zw) (w : World) (h : x.ok) :
    Calls Tryz.prog 123 #[(.agg #[.int .i64 x.a, .int .i64 x.b, .int .i64 x.c, .int .i64 x.d])] w fun e w' => e = .returned (.agg #[.int .i64 x.neg.a, .int .i64 x.neg.b, .int .i64 x.neg.c, .int .i64 x.neg.d]) ∧ Below w.heap.size w w' := by
  obtain ⟨a, b, c, d⟩ := x
  have Hv := Lib.hid (okB_true.2 h)
  obtain ⟨⟨a0, a1⟩, ⟨b0, b1⟩, ⟨c0, c1⟩, ⟨d0, d1⟩⟩ := h
  simp only [] at a0 a1 b0 b1 c0 c1 d0 d1
  go_enter Tryz.func123, Tryz.ntmps123
  go_wp2_with fail
  refine (svalid_any ⟨a, b, c, d⟩ true _ Hv.out).mono ?_
  rintro e w1 ⟨rfl, hb1⟩
  have hs1 := hb1.size
  simp at hs1
  obtain ⟨hc, hf⟩ := bcell hb1
  go_wp2_with fail
  refine bodyPost_ret (v := (.agg #[.int .i64 ((Zw.mk a b c d).neg).a, .int .i64 ((Zw.mk a b c d).neg).b, .int .i64 ((Zw.mk a b c d).neg).c, .int .i64 ((Zw.mk a b c d).neg).d])) (by simp [results, Tryz.results123, go_sem, hc, Zw.neg]) rfl ⟨rfl, ?_⟩
  have hb2 := below_up (B := w.heap.size) (w := w) (by go_grown) hb1 (by simp; omega)
  go_grown
set_option maxRecDepth 100000 in
set_option maxHeartbeats 800000 in
theorem sneg_no (x : Zw) (w : World) (h : ¬ x.ok) :
    Calls Tryz.prog 123 #[(.agg #[.int .i64 x.a, .int .i64 x.b, .int .i64 x.c, .int .i64 x.d])] w fun e w' => e = .returned (.agg #[.int .i64 Zw.zero.a, .int .i64 Zw.zero.b, .int .i64 Zw.zero.c, .int .i64 Zw.zero.d]) ∧ Below w.heap.size w w' := by
  obtain ⟨a, b, c, d⟩ := x
  have Hv := Lib.hid (okB_false.2 h)
  clear h
  go_enter Tryz.func123, Tryz.ntmps123
  go_wp2_with fail
  refine (svalid_any ⟨a, b, c, d⟩ false _ Hv.out).mono ?_
  rintro e w1 ⟨rfl, hb1⟩
  have hs1 := hb1.size
  simp at hs1
  obtain ⟨hc, hf⟩ := bcell hb1
  go_wp2_with fail
  refine bodyPost_ret (v := (.agg #[.int .i64 Zw.zero.a, .int .i64 Zw.zero.b, .int .i64 Zw.zero.c, .int .i64 Zw.zero.d])) (by simp [results, Tryz.results123, go_sem, hc, Zw.zero]) rfl ⟨rfl, ?_⟩
  have hb2 := below_up (B := w.heap.size) (w := w) (by go_grown) hb1 (by simp; omega)
  go_grown
theorem sneg_any (x : Zw) (w : World) :
    Calls Tryz.prog 123 #[(.agg #[.int .i64 x.a, .int .i64 x.b, .int .i64 x.c, .int .i64 x.d])] w fun e w' => e = .returned (.agg #[.int .i64 (negV x).a, .int .i64 (negV x).b, .int .i64 (negV x).c, .int .i64 (negV x).d]) ∧ Below w.heap.size w w' := by
  unfold negV
  by_cases h : x.ok
  · rw [if_pos h]; exact sneg_yes x w h
  · rw [if_neg h]; exact sneg_no x w h
end Go.Proofs.YtckfklpgnneodaaGreat
namespace Go.Proofs.YtckfklpgnneodaaGreat
open Go.RowKit
/-- A block of cells: what each holds, that it may be written, what the block is behind a store. -/
theorem cell_at {w : World} {b : Nat} {cs : Array Value} {t : TypeId} (h : w.heap[b]? = some (.cells cs t (0, 0))) (o : Nat) (v : Value) (hv : cs[o]? = some v) : w.cell? ⟨b, o, none⟩ = some v := by
  simp [World.cell?, h, hv]
theorem free_at {w : World} {b : Nat} {cs : Array Value} {t : TypeId} (h : w.heap[b]? = some (.cells cs t (0, 0))) (o : Nat) : w.frozen? ⟨b, o, none⟩ = false := by
  simp [World.frozen?, h]
theorem heap_set {w : World} {b : Nat} {cs : Array Value} {t : TypeId} (h : w.heap[b]? = some (.cells cs t (0, 0))) (o : Nat) (u : Value) : (w.setCell ⟨b, o, none⟩ u).heap[b]? = some (.cells (cs.setIfInBounds o u) t (0, 0)) := by
  have hlt := lt_of_block h
  have h' : w.heap[b] = .cells cs t (0, 0) := by simpa [Array.getElem?_eq_getElem hlt] using h
  show (w.heap.modify b _)[b]? = _
  rw [Array.getElem?_eq_getElem (by simpa using hlt), Array.getElem_modify_self, h']
  rfl
/-- Only block B may have been written; new blocks may lie behind. -/
abbrev Own (B : Nat) (w w' : World) : Prop := w.grownBy w' (some B)
theorem own_refl (B : Nat) (w : World) : Own B w w := ⟨rfl, rfl, rfl, Nat.le_refl _, fun _ _ _ => rfl⟩
theorem own_trans {B : Nat} {a b c : World} (h : Own B a b) (k : Own B b c) : Own B a c :=
  ⟨k.os.trans h.os, k.tape.trans h.tape, k.output.trans h.output, Nat.le_trans h.size k.size, fun i hi hn => (k.block i (Nat.lt_of_lt_of_le hi h.size) hn).trans (h.block i hi hn)⟩
theorem own_set {B : Nat} {a w : World} (h : Own B a w) (o : Nat) (u : Value) : Own B a (w.setCell ⟨B, o, none⟩ u) :=
  own_trans h ⟨rfl, rfl, rfl, by simp [World.setCell], fun k _ hn => Below.heap_setCell _ _ _ _ (by intro e; exact hn (by rw [e]))⟩
theorem own_drew {B : Nat} {a w : World} (h : Own B a w) (n : Nat) : Own B a (w.drewN n) := own_trans h ⟨rfl, rfl, rfl, Nat.le_refl _, fun _ _ _ => rfl⟩
theorem own_alloc {B : Nat} {a w : World} (h : Own B a w) (o : Obj) : Own B a (w.alloc o) := own_trans h ⟨rfl, rfl, rfl, by simp, fun k hk _ => Below.heap_alloc _ _ _ hk⟩
theorem below_own {B C : Nat} {a b c : World} (h : Below C a b) (k : Own B b c) (hB : C ≤ B) (hC : C ≤ b.heap.size) : Below C a c :=
  h.grown k hC (fun q e => by cases e; exact hB)
theorem own_of_below {B : Nat} {w w' : World} (h : Below w.heap.size w w') : Own B w w' := ⟨h.os, h.tape, h.output, h.size, fun k hk _ => h.block k hk⟩
end Go.Proofs.YtckfklpgnneodaaGreat
namespace Go.Proofs.YtckfklpgnneodaaGreat
open Go.RowKit
/-- The code's bytes are there, below block B. -/
def CodeAt (w : World) (B : Nat) (a0 : Option Addr) (len : Nat) : Prop :=
  len ≤ 140737488351232 ∧ (0 < len → ∃ b off, a0 = some ⟨b, off, none⟩ ∧ b < B ∧ ∀ j, j < len → ∃ v : Int, 0 ≤ v ∧ v ≤ 255 ∧ w.cell? ⟨b, off + j, none⟩ = some (.int .u8 v))
theorem CodeAt.below {w w' : World} {B : Nat} {a0 : Option Addr} {len : Nat} (h : CodeAt w B a0 len) (hb : Below B w w') : CodeAt w' B a0 len :=
  ⟨h.1, fun h0 => by
    obtain ⟨b, off, e, hlt, hc⟩ := h.2 h0
    exact ⟨b, off, e, hlt, fun j hj => by obtain ⟨v, v0, v1, hv⟩ := hc j hj; exact ⟨v, v0, v1, by rw [hb.cell (by exact hlt)]; exact hv⟩⟩⟩
theorem CodeAt.mono {w : World} {B C : Nat} {a0 : Option Addr} {len : Nat} (h : CodeAt w B a0 len) (hB : B ≤ C) : CodeAt w C a0 len :=
  ⟨h.1, fun h0 => by obtain ⟨b, off, e, hlt, hc⟩ := h.2 h0; exact ⟨b, off, e, Nat.lt_of_lt_of_le hlt hB, hc⟩⟩
theorem CodeAt.own {w w' : World} {B : Nat} {a0 : Option Addr} {len : Nat} (h : CodeAt w B a0 len) (hb : Own B w w') : CodeAt w' B a0 len :=
  ⟨h.1, fun h0 => by
    obtain ⟨b, off, e, hlt, hc⟩ := h.2 h0
    refine ⟨b, off, e, hlt, fun j hj => ?_⟩
    obtain ⟨v, v0, v1, hv⟩ := hc j hj
    refine ⟨v, v0, v1, ?_⟩
    have hs := World.block_lt_of_cell? _ _ hv
    rw [World.cell?_of_block (w := w) (hb.block b hs (by intro e; injection e with e; omega))]
    exact hv⟩
theorem code_of {w : World} {x : Addr} {len : Nat} {zs : List Int} (hs : len ≤ 1048576) (hz : len ≤ zs.length) (hc : ∀ i, i < zs.length → w.cell? (x.add i) = some (.int .u8 (zs.getD i 0))) (hw : ∀ n ∈ zs, (Lit.int .u8 n).wf = true) : CodeAt w w.heap.size (some x) len := by
  refine ⟨by omega, fun h0 => ?_⟩
  obtain ⟨b, off, rfl, hcell⟩ := ints_at hc (by omega)
  refine ⟨b, off, rfl, World.block_lt_of_cell? _ _ (hcell 0 (by omega)), fun j hj => ⟨zs.getD j 0, ?_, ?_, hcell j (by omega)⟩⟩
  all_goals
    have hb := bounds_u8 (hw (zs.getD j 0) (by rw [List.getD_eq_getElem?_getD, List.getElem?_eq_getElem (by omega)]; exact List.getElem_mem _))
    omega
/-- The cursor lies in block B. -/
def CurAt (w : World) (B : Nat) : Prop := ∃ (a0 : Option Addr) (len cap i : Nat) (h : Int),
  w.heap[B]? = some (.cells #[.slice a0 len cap, .int .i64 i, .int .i64 h] 66 (0, 0)) ∧ i ≤ len ∧ CodeAt w B a0 len
theorem CurAt.own {w w' : World} {B : Nat} (h : CurAt w B) {C : Nat} (hb : Own C w w') (hC : B < C) : CurAt w' B := by
  obtain ⟨a0, len, cap, i, x, h1, h2, h3⟩ := h
  refine ⟨a0, len, cap, i, x, ?_, h2, h3.below ⟨hb.os, hb.tape, hb.output, hb.size, fun k hk => hb.block k (by have := lt_of_block h1; omega) (by intro e; injection e with e; omega)⟩⟩
  rw [hb.block B (lt_of_block h1) (by intro e; injection e with e; omega)]; exact h1
theorem CurAt.below {w w' : World} {B C : Nat} (h : CurAt w B) (hb : Below C w w') (hC : B < C) : CurAt w' B := by
  obtain ⟨a0, len, cap, i, x, h1, h2, h3⟩ := h
  exact ⟨a0, len, cap, i, x, by rw [hb.block B hC]; exact h1, h2, h3.below (hb.mono (Nat.le_of_lt hC))⟩
theorem and_bd (v : Int) (c : Nat) (hc : c < 4611686018427387904) : 0 ≤ bits .and .i64 v (c : Int) ∧ bits .and .i64 v (c : Int) ≤ c := by
  have e : bits .and .i64 v (c : Int) = IntKind.i64.wrap (((BitVec.ofInt 64 v &&& BitVec.ofInt 64 (c : Int)).toNat : Nat) : Int) := rfl
  have h2 : (BitVec.ofInt 64 (c : Int)).toNat = c := by
    rw [BitVec.ofInt_natCast, BitVec.toNat_ofNat]; exact Nat.mod_eq_of_lt (by omega)
  rw [e, BitVec.toNat_and, h2, IntKind.wrap_i64]
  have := Nat.and_le_right (n := (BitVec.ofInt 64 v).toNat) (m := c)
  omega
theorem and_255 (v : Int) : 0 ≤ bits .and .i64 v 255 ∧ bits .and .i64 v 255 ≤ 255 := and_bd v 255 (by omega)
set_option maxRecDepth 100000 in
set_option maxHeartbeats 400000 in
theorem byte_any (B : Nat) (w : World) (hcur : CurAt w B) :
    Calls Tryz.prog 48 #[.pointer (some ⟨B, 0, none⟩)] w fun e w' => (∃ x : Int, 0 ≤ x ∧ x ≤ 255 ∧ e = .returned (.int .i64 x)) ∧ CurAt w' B ∧ Own B w w' := by
  obtain ⟨a0, len, cap, i, h, hblk, hil, hcode⟩ := hcur
  have c0 := cell_at hblk 0 _ rfl
  have c1 := cell_at hblk 1 _ rfl
  have c2 := cell_at hblk 2 _ rfl
  have f0 := fun o => free_at hblk o
  obtain ⟨h1, hh1⟩ : ∃ h1, h1 = wrap64 (wrap64 (h * 6364136223846793005) + 1442695040888963407) := ⟨_, rfl⟩
  have hblk1 := heap_set hblk 2 (.int .i64 h1)
  simp at hblk1
  have hown := own_set (own_refl B w) 2 (.int .i64 h1)
  have hcode1 := hcode.own hown
  go_enter Tryz.func48, Tryz.ntmps48
  go_wp2_with fail
  rw [← hh1]
  clear hh1
  generalize w.setCell ⟨B, 2, none⟩ (.int .i64 h1) = w1 at *
  have d0 := cell_at hblk1 0 _ rfl
  have d1 := cell_at hblk1 1 _ rfl
  have d2 := cell_at hblk1 2 _ rfl
  have g0 := fun o => free_at hblk1 o
  clear c0 c1 c2 f0 hblk hcode
  by_cases hlt : i < len
  · obtain ⟨b, off, rfl, hbB, hcells⟩ := hcode1.2 (by omega)
    obtain ⟨v, v0, v1, hv⟩ := hcells i hlt
    have hlen := hcode1.1
    have Hc := Lib.hid hcode1
    clear hcells hcode1
    have hblk2 := heap_set hblk1 1 (.int .i64 (i + 1 : Nat))
    simp at hblk2
    go_quiet (fail)
    obtain ⟨x0, x1⟩ := and_255 (bits .xor .i64 (h1 / 8589934592) (h1 / 35184372088832))
    generalize bits .and .i64 (bits .xor .i64 (h1 / 8589934592) (h1 / 35184372088832)) 255 = x at *
    go_wp2_with fail
    go_quiet (fail)
    go_wp2_with fail
    go_quiet (fail)
    obtain ⟨y0, y1⟩ := and_255 (x + v)
    generalize bits .and .i64 (x + v) 255 = y at *
    go_wp2_with fail
    go_ret
    have ho := fun n => own_set (own_drew hown n) 1 (.int .i64 (i + 1 : Nat))
    have hq : ∀ n, ((w1.drewN n).setCell ⟨B, 1, none⟩ (.int .i64 (i + 1 : Nat))).heap[B]? = some (.cells #[.slice (some ⟨b, off, none⟩) len cap, .int .i64 (i + 1 : Nat), .int .i64 h1] 66 (0, 0)) := fun n => by simpa using heap_set (w := w1.drewN n) hblk1 1 (.int .i64 (i + 1 : Nat))
    exact ⟨⟨y, y0, y1, rfl⟩, ⟨some ⟨b, off, none⟩, len, cap, i + 1, h1, hq _, by omega, Hc.out.own (own_set (own_drew (own_refl B w1) _) 1 _)⟩, ho _⟩
  · go_quiet (fail)
    obtain ⟨x0, x1⟩ := and_255 (bits .xor .i64 (h1 / 8589934592) (h1 / 35184372088832))
    generalize bits .and .i64 (bits .xor .i64 (h1 / 8589934592) (h1 / 35184372088832)) 255 = x at *
    go_wp2_with fail
    go_quiet (fail)
    go_wp2_with fail
    go_ret
    exact ⟨⟨x, x0, x1, rfl⟩, ⟨a0, len, cap, i, h1, hblk1, hil, hcode1⟩, own_drew (own_drew hown _) _⟩
set_option maxRecDepth 100000 in
set_option maxHeartbeats 400000 in
theorem below_small (B : Nat) (n : Int) (w : World) (hcur : CurAt w B) (h1 : 1 ≤ n) (h2 : n ≤ 256) :
    Calls Tryz.prog 28 #[.pointer (some ⟨B, 0, none⟩), .int .i64 n] w fun e w' => (∃ x : Int, 0 ≤ x ∧ x < n ∧ e = .returned (.int .i64 x)) ∧ CurAt w' B ∧ Own B w w' := by
  have Hc := Lib.hid hcur
  clear hcur
  go_enter Tryz.func28, Tryz.ntmps28
  go_wp2_with fail
  refine (byte_any B _ Hc.out).mono ?_
  rintro e w1 ⟨⟨x, x0, x1, rfl⟩, hc1, ho1⟩
  have Hc1 := Lib.hid hc1
  have Ho1 := Lib.hid ho1
  clear hc1 ho1
  go_wp2_with fail
  go_ret
  exact ⟨⟨x % n, Int.emod_nonneg _ (by omega), Int.emod_lt_of_pos _ (by omega), rfl⟩, Hc1.out, Ho1.out⟩
set_option maxRecDepth 100000 in
set_option maxHeartbeats 400000 in
theorem below_big (B : Nat) (n : Int) (w : World) (hcur : CurAt w B) (h1 : 256 < n) (h2 : n ≤ 9223372036854775807) :
    Calls Tryz.prog 28 #[.pointer (some ⟨B, 0, none⟩), .int .i64 n] w fun e w' => (∃ x : Int, 0 ≤ x ∧ x < n ∧ e = .returned (.int .i64 x)) ∧ CurAt w' B ∧ Own B w w' := by
  have Hc := Lib.hid hcur
  clear hcur
  go_enter Tryz.func28, Tryz.ntmps28
  go_wp2_with fail
  refine (byte_any B _ Hc.out).mono ?_
  rintro e w1 ⟨⟨x, x0, x1, rfl⟩, hc1, ho1⟩
  have Hc1 := Lib.hid hc1
  have Ho1 := Lib.hid ho1
  clear hc1 ho1
  go_wp2_with fail
  refine (byte_any B _ Hc1.out).mono ?_
  rintro e w2 ⟨⟨y, y0, y1, rfl⟩, hc2, ho2⟩
  have Hc2 := Lib.hid hc2
  have Ho2 := Lib.hid ho2
  clear hc2 ho2
  go_wp2_with fail
  refine (byte_any B _ Hc2.out).mono ?_
  rintro e w3 ⟨⟨z, z0, z1, rfl⟩, hc3, ho3⟩
  have Hc3 := Lib.hid hc3
  have Ho3 := Lib.hid ho3
  clear hc3 ho3
  go_wp2_with fail
  refine (byte_any B _ Hc3.out).mono ?_
  rintro e w4 ⟨⟨u, u0, u1, rfl⟩, hc4, ho4⟩
  have Hc4 := Lib.hid hc4
  have Ho4 := Lib.hid ho4
  clear hc4 ho4
  go_wp2_with fail
  go_ret
  exact ⟨⟨_, Int.emod_nonneg _ (by omega), Int.emod_lt_of_pos _ (by omega), rfl⟩, Hc4.out, own_trans (own_trans (own_trans Ho1.out Ho2.out) Ho3.out) Ho4.out⟩
/-- spec.l1Below at every n from 1 on. -/
theorem below_any (B : Nat) (n : Int) (w : World) (hcur : CurAt w B) (h1 : 1 ≤ n) (h2 : n ≤ 9223372036854775807) :
    Calls Tryz.prog 28 #[.pointer (some ⟨B, 0, none⟩), .int .i64 n] w fun e w' => (∃ x : Int, 0 ≤ x ∧ x < n ∧ e = .returned (.int .i64 x)) ∧ CurAt w' B ∧ Own B w w' := by
  by_cases h : n ≤ 256
  · exact below_small B n w hcur h1 h
  · exact below_big B n w hcur (by omega) h2
end Go.Proofs.YtckfklpgnneodaaGreat
namespace Go.Proofs.YtckfklpgnneodaaGreat
open Go.RowKit
set_option maxRecDepth 100000 in
set_option maxHeartbeats 400000 in
theorem new_any (a0 : Option Addr) (len cap : Nat) (w : World) (hcode : CodeAt w w.heap.size a0 len) :
    Calls Tryz.prog 15 #[.slice a0 len cap] w fun e w' => e = .returned (.pointer (some ⟨w.heap.size, 0, none⟩)) ∧ CurAt w' w.heap.size ∧ Below w.heap.size w w' ∧ w.heap.size < w'.heap.size := by
  have hlen := hcode.1
  have Hc := Lib.hid hcode
  clear hcode
  go_enter Tryz.func15, Tryz.ntmps15
  go_wp2_with fail
  go_loop [3, 4] (fun h i => ∃ (k : Nat) (x : Int), k ≤ len ∧ i = .int .i64 k ∧ h = .int .i64 x) (fun _ i => len - (intOf i).toNat)
  case atStart => exact ⟨0, _, Nat.zero_le _, rfl, rfl⟩
  case round =>
    obtain ⟨k, x, hk, rfl, rfl⟩ := hrel
    by_cases hlt : k < len
    · obtain ⟨b, off, rfl, hbB, hcells⟩ := Hc.out.2 (by omega)
      obtain ⟨v, v0, v1, hv⟩ := hcells k hlt
      clear hcells
      by_cases h4 : k < 4000
      · go_wp2_with fail
        go_round
        case rel => exact ⟨k + 1, _, by omega, by go_num, rfl⟩
        case measure => simp [intOf]; omega
      · go_wp2_with fail
        go_ret
        exact ⟨rfl, ⟨_, len, cap, 0, _, by first | rfl | exact heap_alloc_new _ _, Nat.zero_le _, Hc.out.below ((Below.refl _ _).alloc (Nat.le_refl _) _)⟩, (Below.refl _ _).alloc (Nat.le_refl _) _, by simp⟩
    · go_wp2_with fail
      go_ret
      exact ⟨rfl, ⟨_, len, cap, 0, _, by first | rfl | exact heap_alloc_new _ _, Nat.zero_le _, Hc.out.below ((Below.refl _ _).alloc (Nat.le_refl _) _)⟩, (Below.refl _ _).alloc (Nat.le_refl _) _, by simp⟩
set_option maxRecDepth 100000 in
set_option maxHeartbeats 400000 in
theorem once_any (B : Nat) (n : Int) (w : World) (hcur : CurAt w B) (h1 : 1 ≤ n) (h2 : n ≤ 9223372036854775807) :
    Calls Tryz.prog 32 #[.pointer (some ⟨B, 0, none⟩), .int .i64 n] w fun e w' => (∃ x : Bool, e = .returned (.bool x)) ∧ CurAt w' B ∧ Own B w w' := by
  have Hc := Lib.hid hcur
  clear hcur
  go_enter Tryz.func32, Tryz.ntmps32
  go_wp2_with fail
  refine (below_any B n _ Hc.out h1 h2).mono ?_
  rintro e w1 ⟨⟨x, x0, x1, rfl⟩, hc1, ho1⟩
  have Hc1 := Lib.hid hc1
  have Ho1 := Lib.hid ho1
  clear hc1 ho1
  go_wp2_with fail
  go_ret
  exact ⟨⟨_, rfl⟩, Hc1.out, Ho1.out⟩
/-- A list that the call itself made: its cells, one an element. -/
def ListAt (w : World) (b n : Nat) (f : Nat → Value) : Prop := ∀ j, j < n → w.cell? ⟨b, j, none⟩ = some (f j)
theorem ListAt.own {w w' : World} {B b n : Nat} {f : Nat → Value} (h : ListAt w b n f) (ho : Own B w w') (hne : b ≠ B) : ListAt w' b n f := fun j hj =>
  World.grownBy.cell ho (h j hj) (by intro e; injection e with e; exact hne e)
set_option maxRecDepth 100000 in
set_option maxHeartbeats 400000 in
theorem pickInt_any (B b n cap : Nat) (f : Nat → Int) (w : World) (hcur : CurAt w B) (hl : ListAt w b n (fun j => .int .i64 (f j))) (hne : b ≠ B) (h1 : 1 ≤ n) (h2 : n ≤ 1000000) :
    Calls Tryz.prog 29 #[.pointer (some ⟨B, 0, none⟩), .slice (some ⟨b, 0, none⟩) n cap] w fun e w' => (∃ j : Nat, j < n ∧ e = .returned (.int .i64 (f j))) ∧ CurAt w' B ∧ Own B w w' := by
  have Hc := Lib.hid hcur
  have Hl := Lib.hid hl
  clear hcur hl
  go_enter Tryz.func29, Tryz.ntmps29
  go_wp2_with fail
  refine (below_any B n _ Hc.out (by omega) (by omega)).mono ?_
  rintro e w1 ⟨⟨x, x0, x1, rfl⟩, hc1, ho1⟩
  obtain ⟨j, rfl⟩ := Int.eq_ofNat_of_zero_le x0
  have hj : j < n := by omega
  have hcell := (Hl.out.own ho1 hne) j hj
  have Hc1 := Lib.hid hc1
  have Ho1 := Lib.hid ho1
  clear hc1 ho1
  go_wp2_with fail
  go_ret
  exact ⟨⟨j, hj, rfl⟩, Hc1.out, Ho1.out⟩
end Go.Proofs.YtckfklpgnneodaaGreat
namespace Go.Proofs.YtckfklpgnneodaaGreat
open Go.RowKit
theorem set1_blk {g b o : Nat} {W : World} {x : Obj} {u : Value} (hn : b ≠ g) (h : W.heap[b]? = some x) : (W.setCell ⟨g, o, none⟩ u).heap[b]? = some x := by
  rw [Below.heap_setCell _ _ _ _ (by simpa using hn)]; exact h
end Go.Proofs.YtckfklpgnneodaaGreat
namespace Go.Proofs.YtckfklpgnneodaaGreat
theorem op_at0 {α : Type} {a0 : α} {l : List α} : (List.toArray (a0 :: l))[0]? = some a0 := by simp
theorem op_at1 {α : Type} {a0 a1 : α} {l : List α} : (List.toArray (a0 :: a1 :: l))[1]? = some a1 := by simp
theorem op_at2 {α : Type} {a0 a1 a2 : α} {l : List α} : (List.toArray (a0 :: a1 :: a2 :: l))[2]? = some a2 := by simp
theorem op_at3 {α : Type} {a0 a1 a2 a3 : α} {l : List α} : (List.toArray (a0 :: a1 :: a2 :: a3 :: l))[3]? = some a3 := by simp
theorem op_at4 {α : Type} {a0 a1 a2 a3 a4 : α} {l : List α} : (List.toArray (a0 :: a1 :: a2 :: a3 :: a4 :: l))[4]? = some a4 := by simp
theorem op_at5 {α : Type} {a0 a1 a2 a3 a4 a5 : α} {l : List α} : (List.toArray (a0 :: a1 :: a2 :: a3 :: a4 :: a5 :: l))[5]? = some a5 := by simp
theorem op_at6 {α : Type} {a0 a1 a2 a3 a4 a5 a6 : α} {l : List α} : (List.toArray (a0 :: a1 :: a2 :: a3 :: a4 :: a5 :: a6 :: l))[6]? = some a6 := by simp
theorem op_at7 {α : Type} {a0 a1 a2 a3 a4 a5 a6 a7 : α} {l : List α} : (List.toArray (a0 :: a1 :: a2 :: a3 :: a4 :: a5 :: a6 :: a7 :: l))[7]? = some a7 := by simp
theorem op_at8 {α : Type} {a0 a1 a2 a3 a4 a5 a6 a7 a8 : α} {l : List α} : (List.toArray (a0 :: a1 :: a2 :: a3 :: a4 :: a5 :: a6 :: a7 :: a8 :: l))[8]? = some a8 := by simp
theorem op_at9 {α : Type} {a0 a1 a2 a3 a4 a5 a6 a7 a8 a9 : α} {l : List α} : (List.toArray (a0 :: a1 :: a2 :: a3 :: a4 :: a5 :: a6 :: a7 :: a8 :: a9 :: l))[9]? = some a9 := by simp
end Go.Proofs.YtckfklpgnneodaaGreat
