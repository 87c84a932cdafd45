/- BaseA: several of our texts in one: Heap Zw ZwV ZwA ZwD ZwE ZwF ZwM DwM DwM2. -/
import Derived.Test.YtbohbhhgmglcdaaRows
import Derived.WalkKit
import Derived.WalkSpells
import Derived.WalkLawsBesides
import Derived.Lib.Hide
import Derived.OneCell
import Derived.WalkSmall
import Derived.Handy
import Derived.Deep.QuietTactic
import Derived.BigQuiet
import Derived.Laws.StructEq
import Derived.Deep.RegionHeld3
namespace Go.Proofs.Ytbohbhhgmglcdaa
open Go.RowKit
/-- A block of cells: what each holds, that it may be written, what the block is behind a store. -/
theorem cell_at {w : World} {b : Nat} {cs : Array Value} {t : TypeId} (h : w.heap[b]? = some (.cells cs t (0, 0))) (o : Nat) (v : Value) (hv : cs[o]? = some v) : w.cell? ⟨b, o, none⟩ = some v := by
  simp [World.cell?, h, hv]
theorem free_at {w : World} {b : Nat} {cs : Array Value} {t : TypeId} (h : w.heap[b]? = some (.cells cs t (0, 0))) (o : Nat) : w.frozen? ⟨b, o, none⟩ = false := by
  simp [World.frozen?, h]
theorem heap_set {w : World} {b : Nat} {cs : Array Value} {t : TypeId} (h : w.heap[b]? = some (.cells cs t (0, 0))) (o : Nat) (u : Value) : (w.setCell ⟨b, o, none⟩ u).heap[b]? = some (.cells (cs.setIfInBounds o u) t (0, 0)) := by
  have hlt := lt_of_block h
  have h' : w.heap[b] = .cells cs t (0, 0) := by simpa [Array.getElem?_eq_getElem hlt] using h
  show (w.heap.modify b _)[b]? = _
  rw [Array.getElem?_eq_getElem (by simpa using hlt), Array.getElem_modify_self, h']
  rfl
/-- Only block B may have been written; new blocks may lie behind. -/
abbrev Own (B : Nat) (w w' : World) : Prop := w.grownBy w' (some B)
theorem own_refl (B : Nat) (w : World) : Own B w w := ⟨rfl, rfl, rfl, Nat.le_refl _, fun _ _ _ => rfl⟩
theorem own_trans {B : Nat} {a b c : World} (h : Own B a b) (k : Own B b c) : Own B a c :=
  ⟨k.os.trans h.os, k.tape.trans h.tape, k.output.trans h.output, Nat.le_trans h.size k.size, fun i hi hn => (k.block i (Nat.lt_of_lt_of_le hi h.size) hn).trans (h.block i hi hn)⟩
theorem own_set {B : Nat} {a w : World} (h : Own B a w) (o : Nat) (u : Value) : Own B a (w.setCell ⟨B, o, none⟩ u) :=
  own_trans h ⟨rfl, rfl, rfl, by simp [World.setCell], fun k _ hn => Below.heap_setCell _ _ _ _ (by intro e; exact hn (by rw [e]))⟩
theorem own_drew {B : Nat} {a w : World} (h : Own B a w) (n : Nat) : Own B a (w.drewN n) := own_trans h ⟨rfl, rfl, rfl, Nat.le_refl _, fun _ _ _ => rfl⟩
theorem own_alloc {B : Nat} {a w : World} (h : Own B a w) (o : Obj) : Own B a (w.alloc o) := own_trans h ⟨rfl, rfl, rfl, by simp, fun k hk _ => Below.heap_alloc _ _ _ hk⟩
theorem own_below {B : Nat} {a b c : World} (h : Below B a b) (k : Own B b c) (hB : B ≤ b.heap.size) : Below B a c :=
  h.grown k hB (fun k e => by cases e; exact Nat.le_refl _)
theorem below_own {B C : Nat} {a b c : World} (h : Below C a b) (k : Own B b c) (hB : C ≤ B) (hC : C ≤ b.heap.size) : Below C a c :=
  h.grown k hC (fun q e => by cases e; exact hB)
theorem own_of_below {B : Nat} {w w' : World} (h : Below w.heap.size w w') : Own B w w' := ⟨h.os, h.tape, h.output, h.size, fun k hk _ => h.block k hk⟩
end Go.Proofs.Ytbohbhhgmglcdaa
/- The ring Z[omega] in plain integers: what is valid, the sum, the product, the two conjugates, division by the square root of 2. -/
namespace Go.Proofs.Ytbohbhhgmglcdaa
structure Zw where
  a : Int
  b : Int
  c : Int
  d : Int
theorem Zw.ext4 {x y : Zw} (ha : x.a = y.a) (hb : x.b = y.b) (hc : x.c = y.c) (hd : x.d = y.d) : x = y := by
  cases x; cases y; simp_all
/-- One coefficient is within the limit. -/
def Near (n : Int) : Prop := -1073741824 ≤ n ∧ n ≤ 1073741824
instance (n : Int) : Decidable (Near n) := inferInstanceAs (Decidable (_ ∧ _))
def Zw.ok (x : Zw) : Prop := Near x.a ∧ Near x.b ∧ Near x.c ∧ Near x.d
instance (x : Zw) : Decidable x.ok := inferInstanceAs (Decidable (_ ∧ _))
/-- An integer of 64 bits. -/
def I64 (n : Int) : Prop := -9223372036854775808 ≤ n ∧ n ≤ 9223372036854775807
def Zw.i64 (x : Zw) : Prop := I64 x.a ∧ I64 x.b ∧ I64 x.c ∧ I64 x.d
def okB (x : Zw) : Bool := decide x.ok
theorem okB_true {x : Zw} : okB x = true ↔ x.ok := by simp [okB]
theorem okB_false {x : Zw} : okB x = false ↔ ¬ x.ok := by simp [okB]
def Zw.zero : Zw := ⟨0, 0, 0, 0⟩
def Zw.add (x y : Zw) : Zw := ⟨x.a + y.a, x.b + y.b, x.c + y.c, x.d + y.d⟩
def Zw.neg (x : Zw) : Zw := ⟨-x.a, -x.b, -x.c, -x.d⟩
def Zw.mul (x y : Zw) : Zw := ⟨x.a * y.a - x.b * y.d - x.c * y.c - x.d * y.b, x.a * y.b + x.b * y.a - x.c * y.d - x.d * y.c, x.a * y.c + x.b * y.b + x.c * y.a - x.d * y.d, x.a * y.d + x.b * y.c + x.c * y.b + x.d * y.a⟩
def Zw.conj (x : Zw) : Zw := ⟨x.a, -x.d, -x.c, -x.b⟩
def Zw.bar (x : Zw) : Zw := ⟨x.a, -x.b, x.c, -x.d⟩
/-- x times the square root of 2. -/
def Zw.root (x : Zw) : Zw := ⟨x.b - x.d, x.a + x.c, x.b + x.d, x.c - x.a⟩
def Zw.even (x : Zw) : Prop := x.a % 2 = 0 ∧ x.b % 2 = 0 ∧ x.c % 2 = 0 ∧ x.d % 2 = 0
instance (x : Zw) : Decidable x.even := inferInstanceAs (Decidable (_ ∧ _))
def Zw.half (x : Zw) : Zw := ⟨x.a / 2, x.b / 2, x.c / 2, x.d / 2⟩
/-- What the functions of the chapter return. -/
def addB (x y : Zw) : Bool := decide (x.ok ∧ y.ok ∧ (x.add y).ok)
def addV (x y : Zw) : Zw := if x.ok ∧ y.ok ∧ (x.add y).ok then x.add y else .zero
def mulB (x y : Zw) : Bool := decide (x.ok ∧ y.ok ∧ (x.mul y).ok)
def mulV (x y : Zw) : Zw := if x.ok ∧ y.ok ∧ (x.mul y).ok then x.mul y else .zero
def negV (x : Zw) : Zw := if x.ok then x.neg else .zero
def conjV (x : Zw) : Zw := if x.ok then x.conj else .zero
def barV (x : Zw) : Zw := if x.ok then x.bar else .zero
def divB (x : Zw) : Bool := decide (x.ok ∧ x.root.even)
def divV (x : Zw) : Zw := if x.ok ∧ x.root.even then x.root.half else .zero
theorem Near.i64 {n : Int} (h : Near n) : I64 n := by unfold Near at h; unfold I64; omega
theorem Zw.ok.i64 {x : Zw} (h : x.ok) : x.i64 := ⟨h.1.i64, h.2.1.i64, h.2.2.1.i64, h.2.2.2.i64⟩
/-- A product of two coefficients. -/
theorem near_mul {a b : Int} (ha : Near a) (hb : Near b) : -1152921504606846976 ≤ a * b ∧ a * b ≤ 1152921504606846976 := by
  unfold Near at ha hb
  have h1 : 0 ≤ (1073741824 - a) * (1073741824 + b) := Int.mul_nonneg (by omega) (by omega)
  have h2 : 0 ≤ (1073741824 + a) * (1073741824 - b) := Int.mul_nonneg (by omega) (by omega)
  have h3 : 0 ≤ (1073741824 + a) * (1073741824 + b) := Int.mul_nonneg (by omega) (by omega)
  have h4 : 0 ≤ (1073741824 - a) * (1073741824 - b) := Int.mul_nonneg (by omega) (by omega)
  simp only [Int.mul_add, Int.add_mul, Int.mul_sub, Int.sub_mul] at h1 h2 h3 h4
  omega
end Go.Proofs.Ytbohbhhgmglcdaa
namespace Go.Proofs.Ytbohbhhgmglcdaa
open Go.RowKit
attribute [local irreducible] World.cell?
theorem bcell {W w1 : World} (hb : Below W.heap.size W w1) : (∀ b o, b < W.heap.size → w1.cell? ⟨b, o, none⟩ = W.cell? ⟨b, o, none⟩) ∧ (∀ b o, b < W.heap.size → w1.frozen? ⟨b, o, none⟩ = W.frozen? ⟨b, o, none⟩) :=
  ⟨fun b o h => hb.cell (p := ⟨b, o, none⟩) h, fun b o h => hb.frozen (p := ⟨b, o, none⟩) h⟩
set_option maxRecDepth 100000 in
set_option maxHeartbeats 400000 in
theorem coefs (x : Zw) (w : World) :
    Calls Try.prog 88 #[(.agg #[.int .i64 x.a, .int .i64 x.b, .int .i64 x.c, .int .i64 x.d])] w fun e w' => e = .returned (.agg #[.int .i64 x.a, .int .i64 x.b, .int .i64 x.c, .int .i64 x.d]) ∧ Below w.heap.size w w' := by
  go_enter Try.func88, Try.ntmps88
  go_wp2_with fail
  go_returns
  exact ⟨rfl, by go_grown⟩
theorem idx4 (a b c d : Value) (w : World) :
    (Instr.index 78 (.agg #[a, b, c, d]) (.int .i64 0)).run Try.prog w = .ok a w ∧
    (Instr.index 78 (.agg #[a, b, c, d]) (.int .i64 1)).run Try.prog w = .ok b w ∧
    (Instr.index 78 (.agg #[a, b, c, d]) (.int .i64 2)).run Try.prog w = .ok c w ∧
    (Instr.index 78 (.agg #[a, b, c, d]) (.int .i64 3)).run Try.prog w = .ok d w :=
  ⟨by kernel_rfl, by kernel_rfl, by kernel_rfl, by kernel_rfl⟩
set_option maxRecDepth 100000 in
set_option maxHeartbeats 800000 in
theorem ivalid_yes (x : Zw) (w : World) (h : x.ok) :
    Calls Try.prog 78 #[(.agg #[.int .i64 x.a, .int .i64 x.b, .int .i64 x.c, .int .i64 x.d])] w fun e w' => e = .returned (.bool true) ∧ Below w.heap.size w w' := by
  obtain ⟨a, b, c, d⟩ := x
  obtain ⟨⟨a0, a1⟩, ⟨b0, b1⟩, ⟨c0, c1⟩, ⟨d0, d1⟩⟩ := h
  simp only [] at a0 a1 b0 b1 c0 c1 d0 d1
  go_enter Try.func78, Try.ntmps78
  go_wp2_with fail
  refine (coefs ⟨a, b, c, d⟩ _).mono ?_
  rintro e w1 ⟨rfl, hb1⟩
  have hb2 := ((Below.refl _ _).alloc (Nat.le_refl _) _).trans (hb1.mono (by simp))
  obtain ⟨i0, i1, i2, i3⟩ := idx4 (.int .i64 a) (.int .i64 b) (.int .i64 c) (.int .i64 d) w1
  have Hb := Lib.hid hb2
  clear hb1 hb2
  go_wp2_with fail
  go_rounds 5
  go_returns
  exact ⟨rfl, Hb.out⟩
set_option maxRecDepth 100000 in
set_option maxHeartbeats 800000 in
theorem ivalid_no (x : Zw) (w : World) (h : ¬ x.ok) :
    Calls Try.prog 78 #[(.agg #[.int .i64 x.a, .int .i64 x.b, .int .i64 x.c, .int .i64 x.d])] w fun e w' => e = .returned (.bool false) ∧ Below w.heap.size w w' := by
  obtain ⟨a, b, c, d⟩ := x
  have h' : ¬ (Near a ∧ Near b ∧ Near c ∧ Near d) := h
  simp only [Near] at h'
  clear h
  have H := Lib.hid h'
  clear h'
  go_enter Try.func78, Try.ntmps78
  go_wp2_with fail
  refine (coefs ⟨a, b, c, d⟩ _).mono ?_
  rintro e w1 ⟨rfl, hb1⟩
  have hb2 := ((Below.refl _ _).alloc (Nat.le_refl _) _).trans (hb1.mono (by simp))
  obtain ⟨i0, i1, i2, i3⟩ := idx4 (.int .i64 a) (.int .i64 b) (.int .i64 c) (.int .i64 d) w1
  have Hb := Lib.hid hb2
  clear hb1 hb2
  go_wp2_with fail
  go_rounds 5
  all_goals go_returns
  all_goals first
    | exact ⟨rfl, Hb.out⟩
    | (exfalso; have := H.out; omega)
theorem ivalid_any (x : Zw) (b : Bool) (w : World) (h : okB x = b) :
    Calls Try.prog 78 #[(.agg #[.int .i64 x.a, .int .i64 x.b, .int .i64 x.c, .int .i64 x.d])] w fun e w' => e = .returned (.bool b) ∧ Below w.heap.size w w' := by
  cases b
  · exact ivalid_no x w (okB_false.1 h)
  · exact ivalid_yes x w (okB_true.1 h)
set_option maxRecDepth 100000 in
set_option maxHeartbeats 400000 in
theorem near_yes (n : Int) (w : World) (h : Near n) :
    Calls Try.prog 91 #[.int .i64 n] w fun e w' => e = .returned (.bool true) ∧ w = w' := by
  obtain ⟨h0, h1⟩ := h
  go_enter Try.func91, Try.ntmps91
  go_wp2_with (go_at_call 57; go_in)
  go_ret
  exact ⟨rfl, rfl⟩
set_option maxRecDepth 100000 in
set_option maxHeartbeats 400000 in
theorem near_no (n : Int) (w : World) (h : ¬ Near n) :
    Calls Try.prog 91 #[.int .i64 n] w fun e w' => e = .returned (.bool false) ∧ w = w' := by
  have h' : n < -1073741824 ∨ 1073741824 < n := by unfold Near at h; omega
  clear h
  rcases h' with h | h
  · go_enter Try.func91, Try.ntmps91
    go_wp2_with (go_at_call 57; go_in)
    go_ret
    exact ⟨rfl, rfl⟩
  · have h0 : -1073741824 ≤ n := by omega
    have hd : decide (n ≤ 1073741824) = false := by simpa using h
    go_enter Try.func91, Try.ntmps91
    go_wp2_with (go_at_call 57; go_in)
    go_ret
    exact ⟨rfl, rfl⟩
set_option maxRecDepth 100000 in
set_option maxHeartbeats 800000 in
theorem svalid_yes (x : Zw) (w : World) (h : x.ok) :
    Calls Try.prog 83 #[(.agg #[.int .i64 x.a, .int .i64 x.b, .int .i64 x.c, .int .i64 x.d])] w fun e w' => e = .returned (.bool true) ∧ Below w.heap.size w w' := by
  obtain ⟨a, b, c, d⟩ := x
  obtain ⟨ha, hb, hc, hd⟩ := h
  have Ha := Lib.hid ha
  have Hb := Lib.hid hb
  have Hc := Lib.hid hc
  have Hd := Lib.hid hd
  clear ha hb hc hd
  simp only [] at Ha Hb Hc Hd
  go_enter Try.func83, Try.ntmps83
  go_wp2_with fail
  refine (near_yes a _ Ha.out).mono ?_
  rintro e w1 ⟨rfl, rfl⟩
  go_wp2_with fail
  refine (near_yes b _ Hb.out).mono ?_
  rintro e w1 ⟨rfl, rfl⟩
  go_wp2_with fail
  refine (near_yes c _ Hc.out).mono ?_
  rintro e w1 ⟨rfl, rfl⟩
  go_wp2_with fail
  refine (near_yes d _ Hd.out).mono ?_
  rintro e w1 ⟨rfl, rfl⟩
  go_wp2_with fail
  go_returns
  exact ⟨rfl, by go_grown⟩
set_option maxRecDepth 100000 in
set_option maxHeartbeats 1600000 in
theorem svalid_no (x : Zw) (w : World) (h : ¬ x.ok) :
    Calls Try.prog 83 #[(.agg #[.int .i64 x.a, .int .i64 x.b, .int .i64 x.c, .int .i64 x.d])] w fun e w' => e = .returned (.bool false) ∧ Below w.heap.size w w' := by
  obtain ⟨a, b, c, d⟩ := x
  have H : Near a → Near b → Near c → ¬ Near d := fun p q r s => h ⟨p, q, r, s⟩
  clear h
  have Hd := Lib.hid H
  clear H
  go_enter Try.func83, Try.ntmps83
  go_wp2_with fail
  by_cases ha : Near a
  · have Ha := Lib.hid ha
    clear ha
    refine (near_yes a _ Ha.out).mono ?_
    rintro e w1 ⟨rfl, rfl⟩
    go_wp2_with fail
    by_cases hb : Near b
    · have Hb := Lib.hid hb
      clear hb
      refine (near_yes b _ Hb.out).mono ?_
      rintro e w1 ⟨rfl, rfl⟩
      go_wp2_with fail
      by_cases hc : Near c
      · have Hc := Lib.hid hc
        clear hc
        refine (near_yes c _ Hc.out).mono ?_
        rintro e w1 ⟨rfl, rfl⟩
        go_wp2_with fail
        refine (near_no d _ (Hd.out Ha.out Hb.out Hc.out)).mono ?_
        rintro e w1 ⟨rfl, rfl⟩
        go_wp2_with fail
        go_returns
        exact ⟨rfl, by go_grown⟩
      · refine (near_no c _ hc).mono ?_
        rintro e w1 ⟨rfl, rfl⟩
        clear hc
        go_wp2_with fail
        go_returns
        exact ⟨rfl, by go_grown⟩
    · refine (near_no b _ hb).mono ?_
      rintro e w1 ⟨rfl, rfl⟩
      clear hb
      go_wp2_with fail
      go_returns
      exact ⟨rfl, by go_grown⟩
  · refine (near_no a _ ha).mono ?_
    rintro e w1 ⟨rfl, rfl⟩
    clear ha
    go_wp2_with fail
    go_returns
    exact ⟨rfl, by go_grown⟩
theorem svalid_any (x : Zw) (b : Bool) (w : World) (h : okB x = b) :
    Calls Try.prog 83 #[(.agg #[.int .i64 x.a, .int .i64 x.b, .int .i64 x.c, .int .i64 x.d])] w fun e w' => e = .returned (.bool b) ∧ Below w.heap.size w w' := by
  cases b
  · exact svalid_no x w (okB_false.1 h)
  · exact svalid_yes x w (okB_true.1 h)
end Go.Proofs.Ytbohbhhgmglcdaa
namespace Go.Proofs.Ytbohbhhgmglcdaa
open Go.RowKit
attribute [local irreducible] World.cell?
theorem below_up {B : Nat} {w w1 w2 : World} (h1 : Below B w w1) (h2 : Below w1.heap.size w1 w2) (hB : B ≤ w1.heap.size) : Below B w w2 := h1.trans (h2.mono hB)
set_option maxRecDepth 100000 in
set_option maxHeartbeats 800000 in
theorem iconj_yes (x : Zw) (w : World) (h : x.ok) :
    Calls Try.prog 55 #[(.agg #[.int .i64 x.a, .int .i64 x.b, .int .i64 x.c, .int .i64 x.d])] w fun e w' => e = .returned (.agg #[.int .i64 x.conj.a, .int .i64 x.conj.b, .int .i64 x.conj.c, .int .i64 x.conj.d]) ∧ Below w.heap.size w w' := by
  obtain ⟨a, b, c, d⟩ := x
  have Hv := Lib.hid (okB_true.2 h)
  obtain ⟨⟨a0, a1⟩, ⟨b0, b1⟩, ⟨c0, c1⟩, ⟨d0, d1⟩⟩ := h
  simp only [] at a0 a1 b0 b1 c0 c1 d0 d1
  go_enter Try.func55, Try.ntmps55
  go_wp2_with fail
  refine (ivalid_any ⟨a, b, c, d⟩ true _ Hv.out).mono ?_
  rintro e w1 ⟨rfl, hb1⟩
  have hs1 := hb1.size
  simp at hs1
  obtain ⟨hc, hf⟩ := bcell hb1
  go_wp2_with fail
  refine bodyPost_ret (v := (.agg #[.int .i64 ((Zw.mk a b c d).conj).a, .int .i64 ((Zw.mk a b c d).conj).b, .int .i64 ((Zw.mk a b c d).conj).c, .int .i64 ((Zw.mk a b c d).conj).d])) (by simp [results, Try.results55, go_sem, hc, Zw.conj]) rfl ⟨rfl, ?_⟩
  have hb2 := below_up (B := w.heap.size) (w := w) (by go_grown) hb1 (by simp; omega)
  go_grown
set_option maxRecDepth 100000 in
set_option maxHeartbeats 800000 in
theorem iconj_no (x : Zw) (w : World) (h : ¬ x.ok) :
    Calls Try.prog 55 #[(.agg #[.int .i64 x.a, .int .i64 x.b, .int .i64 x.c, .int .i64 x.d])] w fun e w' => e = .returned (.agg #[.int .i64 Zw.zero.a, .int .i64 Zw.zero.b, .int .i64 Zw.zero.c, .int .i64 Zw.zero.d]) ∧ Below w.heap.size w w' := by
  obtain ⟨a, b, c, d⟩ := x
  have Hv := Lib.hid (okB_false.2 h)
  clear h
  go_enter Try.func55, Try.ntmps55
  go_wp2_with fail
  refine (ivalid_any ⟨a, b, c, d⟩ false _ Hv.out).mono ?_
  rintro e w1 ⟨rfl, hb1⟩
  have hs1 := hb1.size
  simp at hs1
  obtain ⟨hc, hf⟩ := bcell hb1
  go_wp2_with fail
  refine bodyPost_ret (v := (.agg #[.int .i64 Zw.zero.a, .int .i64 Zw.zero.b, .int .i64 Zw.zero.c, .int .i64 Zw.zero.d])) (by simp [results, Try.results55, go_sem, hc, Zw.zero]) rfl ⟨rfl, ?_⟩
  have hb2 := below_up (B := w.heap.size) (w := w) (by go_grown) hb1 (by simp; omega)
  go_grown
theorem iconj_any (x : Zw) (w : World) :
    Calls Try.prog 55 #[(.agg #[.int .i64 x.a, .int .i64 x.b, .int .i64 x.c, .int .i64 x.d])] w fun e w' => e = .returned (.agg #[.int .i64 (conjV x).a, .int .i64 (conjV x).b, .int .i64 (conjV x).c, .int .i64 (conjV x).d]) ∧ Below w.heap.size w w' := by
  unfold conjV
  by_cases h : x.ok
  · rw [if_pos h]; exact iconj_yes x w h
  · rw [if_neg h]; exact iconj_no x w h
set_option maxRecDepth 100000 in
set_option maxHeartbeats 800000 in
theorem sconj_yes (x : Zw) (w : World) (h : x.ok) :
    Calls Try.prog 77 #[(.agg #[.int .i64 x.a, .int .i64 x.b, .int .i64 x.c, .int .i64 x.d])] w fun e w' => e = .returned (.agg #[.int .i64 x.conj.a, .int .i64 x.conj.b, .int .i64 x.conj.c, .int .i64 x.conj.d]) ∧ Below w.heap.size w w' := by
  obtain ⟨a, b, c, d⟩ := x
  have Hv := Lib.hid (okB_true.2 h)
  obtain ⟨⟨a0, a1⟩, ⟨b0, b1⟩, ⟨c0, c1⟩, ⟨d0, d1⟩⟩ := h
  simp only [] at a0 a1 b0 b1 c0 c1 d0 d1
  go_enter Try.func77, Try.ntmps77
  go_wp2_with fail
  refine (svalid_any ⟨a, b, c, d⟩ true _ Hv.out).mono ?_
  rintro e w1 ⟨rfl, hb1⟩
  have hs1 := hb1.size
  simp at hs1
  obtain ⟨hc, hf⟩ := bcell hb1
  go_wp2_with fail
  refine bodyPost_ret (v := (.agg #[.int .i64 ((Zw.mk a b c d).conj).a, .int .i64 ((Zw.mk a b c d).conj).b, .int .i64 ((Zw.mk a b c d).conj).c, .int .i64 ((Zw.mk a b c d).conj).d])) (by simp [results, Try.results77, go_sem, hc, Zw.conj]) rfl ⟨rfl, ?_⟩
  have hb2 := below_up (B := w.heap.size) (w := w) (by go_grown) hb1 (by simp; omega)
  go_grown
set_option maxRecDepth 100000 in
set_option maxHeartbeats 800000 in
theorem sconj_no (x : Zw) (w : World) (h : ¬ x.ok) :
    Calls Try.prog 77 #[(.agg #[.int .i64 x.a, .int .i64 x.b, .int .i64 x.c, .int .i64 x.d])] w fun e w' => e = .returned (.agg #[.int .i64 Zw.zero.a, .int .i64 Zw.zero.b, .int .i64 Zw.zero.c, .int .i64 Zw.zero.d]) ∧ Below w.heap.size w w' := by
  obtain ⟨a, b, c, d⟩ := x
  have Hv := Lib.hid (okB_false.2 h)
  clear h
  go_enter Try.func77, Try.ntmps77
  go_wp2_with fail
  refine (svalid_any ⟨a, b, c, d⟩ false _ Hv.out).mono ?_
  rintro e w1 ⟨rfl, hb1⟩
  have hs1 := hb1.size
  simp at hs1
  obtain ⟨hc, hf⟩ := bcell hb1
  go_wp2_with fail
  refine bodyPost_ret (v := (.agg #[.int .i64 Zw.zero.a, .int .i64 Zw.zero.b, .int .i64 Zw.zero.c, .int .i64 Zw.zero.d])) (by simp [results, Try.results77, go_sem, hc, Zw.zero]) rfl ⟨rfl, ?_⟩
  have hb2 := below_up (B := w.heap.size) (w := w) (by go_grown) hb1 (by simp; omega)
  go_grown
theorem sconj_any (x : Zw) (w : World) :
    Calls Try.prog 77 #[(.agg #[.int .i64 x.a, .int .i64 x.b, .int .i64 x.c, .int .i64 x.d])] w fun e w' => e = .returned (.agg #[.int .i64 (conjV x).a, .int .i64 (conjV x).b, .int .i64 (conjV x).c, .int .i64 (conjV x).d]) ∧ Below w.heap.size w w' := by
  unfold conjV
  by_cases h : x.ok
  · rw [if_pos h]; exact sconj_yes x w h
  · rw [if_neg h]; exact sconj_no x w h
end Go.Proofs.Ytbohbhhgmglcdaa
namespace Go.Proofs.Ytbohbhhgmglcdaa
open Go.RowKit
attribute [local irreducible] World.cell?
/-! Plain numbers. -/
theorem tdiv2 (r : Int) : 2 * r.tdiv 2 + r.tmod 2 = r ∧ -1 ≤ r.tmod 2 ∧ r.tmod 2 ≤ 1 := by
  have h := Int.mul_tdiv_add_tmod r 2
  have h1 := Int.tmod_lt_of_pos r (show (0 : Int) < 2 by omega)
  have h2 := Int.lt_tmod_of_pos r (show (0 : Int) < 2 by omega)
  omega
theorem tmod2 (r : Int) : r.tmod 2 = 0 ↔ r % 2 = 0 := by
  have h := tdiv2 r
  omega
def Zw.thalf (x : Zw) : Zw := ⟨x.a.tdiv 2, x.b.tdiv 2, x.c.tdiv 2, x.d.tdiv 2⟩
theorem thalf_root {x : Zw} : x.root.thalf.root = x ↔ x.root.even := by
  obtain ⟨a, b, c, d⟩ := x
  have h1 := tdiv2 (b - d)
  have h2 := tdiv2 (a + c)
  have h3 := tdiv2 (b + d)
  have h4 := tdiv2 (c - a)
  simp only [Zw.root, Zw.thalf, Zw.even, Zw.mk.injEq]
  omega
theorem thalf_half {x : Zw} (h : x.even) : x.thalf = x.half := by
  obtain ⟨a, b, c, d⟩ := x
  have h1 := tdiv2 a
  have h2 := tdiv2 b
  have h3 := tdiv2 c
  have h4 := tdiv2 d
  simp only [Zw.thalf, Zw.even, Zw.half, Zw.mk.injEq] at *
  omega
theorem thalf_ok {x : Zw} (h : x.ok) : x.root.thalf.ok := by
  obtain ⟨a, b, c, d⟩ := x
  have h1 := tdiv2 (b - d)
  have h2 := tdiv2 (a + c)
  have h3 := tdiv2 (b + d)
  have h4 := tdiv2 (c - a)
  simp only [Zw.root, Zw.thalf, Zw.ok, Near] at *
  omega
/-- Two arrays of four integers are compared. -/
theorem size3 (w : World) : (sizeOf 3).run Try.prog w = .ok 1 w := by kernel_rfl
set_option maxRecDepth 100000 in
set_option maxHeartbeats 400000 in
theorem eq4 (x y : Zw) (w : World) : (binOp .neq 78 (.agg #[.int .i64 x.a, .int .i64 x.b, .int .i64 x.c, .int .i64 x.d]) (.agg #[.int .i64 y.a, .int .i64 y.b, .int .i64 y.c, .int .i64 y.d])).run Try.prog w = .ok (.bool (!(decide (x.a = y.a) && decide (x.b = y.b) && decide (x.c = y.c) && decide (x.d = y.d)))) w := by
  rw [run_neq_struct, Op.equalIn]
  simp only [Sem.run_bind, run_underlying Try.underlying78, Result.andThen_ok, size3]
  have pe : ∀ (u v : Int) (w : World), (Op.equalIn 9999 3 (.int .i64 u) (.int .i64 v)).run Try.prog w = .ok (u == v) w := fun u v w => run_equalIn_int w 9998 3 .i64 .i64 u v Try.underlying3
  have pp : ∀ (cs : Array Value) (i : Nat) (u : Value) (w : World), cs[i]? = some u → (part 3 cs i).run Try.prog w = .ok u w := by
    intro cs i u w hu
    simp [part, isAgg, run_underlying Try.underlying3, hu]
  simp only [Std.Legacy.Range.forIn_eq_forIn_range', Std.Legacy.Range.size, Nat.sub_zero, Nat.add_sub_cancel, Nat.div_one, List.range', List.forIn_cons, List.forIn_nil, Sem.run_bind]
  have eb : ∀ u v : Int, (u == v) = decide (u = v) := fun _ _ => rfl
  rw [pp _ (0 * 1) (.int .i64 x.a) _ rfl]
  simp only [Result.andThen_ok]
  rw [pp _ (0 * 1) (.int .i64 y.a) _ rfl]
  simp only [Result.andThen_ok]
  rw [pe, eb]
  cases decide (x.a = y.a)
  · simp
  simp only [Result.andThen_ok, Bool.not_true, Bool.false_eq_true, if_false, Sem.run_pure, Sem.run_bind]
  rw [pp _ ((0 + 1) * 1) (.int .i64 x.b) _ rfl]
  simp only [Result.andThen_ok]
  rw [pp _ ((0 + 1) * 1) (.int .i64 y.b) _ rfl]
  simp only [Result.andThen_ok]
  rw [pe, eb]
  cases decide (x.b = y.b)
  · simp
  simp only [Result.andThen_ok, Bool.not_true, Bool.false_eq_true, if_false, Sem.run_pure, Sem.run_bind]
  rw [pp _ ((0 + 1 + 1) * 1) (.int .i64 x.c) _ rfl]
  simp only [Result.andThen_ok]
  rw [pp _ ((0 + 1 + 1) * 1) (.int .i64 y.c) _ rfl]
  simp only [Result.andThen_ok]
  rw [pe, eb]
  cases decide (x.c = y.c)
  · simp
  simp only [Result.andThen_ok, Bool.not_true, Bool.false_eq_true, if_false, Sem.run_pure, Sem.run_bind]
  rw [pp _ ((0 + 1 + 1 + 1) * 1) (.int .i64 x.d) _ rfl]
  simp only [Result.andThen_ok]
  rw [pp _ ((0 + 1 + 1 + 1) * 1) (.int .i64 y.d) _ rfl]
  simp only [Result.andThen_ok]
  rw [pe, eb]
  cases decide (x.d = y.d)
  · simp
  simp
set_option maxRecDepth 100000 in
set_option maxHeartbeats 400000 in
theorem elem (x : Zw) (w : World) :
    Calls Try.prog 63 #[(.agg #[.int .i64 x.a, .int .i64 x.b, .int .i64 x.c, .int .i64 x.d])] w fun e w' => e = .returned (.agg #[.int .i64 x.a, .int .i64 x.b, .int .i64 x.c, .int .i64 x.d]) ∧ Below w.heap.size w w' := by
  go_enter Try.func63, Try.ntmps63
  go_wp2_with fail
  go_returns
  exact ⟨rfl, by go_grown⟩
set_option maxRecDepth 100000 in
set_option maxHeartbeats 400000 in
theorem tsq (x : Zw) (w : World) (h : x.ok) :
    Calls Try.prog 94 #[(.agg #[.int .i64 x.a, .int .i64 x.b, .int .i64 x.c, .int .i64 x.d])] w fun e w' => e = .returned (.agg #[.int .i64 x.root.a, .int .i64 x.root.b, .int .i64 x.root.c, .int .i64 x.root.d]) ∧ Below w.heap.size w w' := by
  obtain ⟨a, b, c, d⟩ := x
  obtain ⟨⟨a0, a1⟩, ⟨b0, b1⟩, ⟨c0, c1⟩, ⟨d0, d1⟩⟩ := h
  simp only [] at a0 a1 b0 b1 c0 c1 d0 d1
  go_enter Try.func94, Try.ntmps94
  go_wp2_with fail
  go_returns
  exact ⟨rfl, by go_grown⟩
set_option maxRecDepth 100000 in
set_option maxHeartbeats 800000 in
theorem halv (x : Zw) (w : World) (h : x.i64) :
    Calls Try.prog 93 #[(.agg #[.int .i64 x.a, .int .i64 x.b, .int .i64 x.c, .int .i64 x.d])] w fun e w' => e = .returned (.agg #[.int .i64 x.thalf.a, .int .i64 x.thalf.b, .int .i64 x.thalf.c, .int .i64 x.thalf.d]) ∧ Below w.heap.size w w' := by
  obtain ⟨a, b, c, d⟩ := x
  obtain ⟨⟨a0, a1⟩, ⟨b0, b1⟩, ⟨c0, c1⟩, ⟨d0, d1⟩⟩ := h
  simp only [] at a0 a1 b0 b1 c0 c1 d0 d1
  go_enter Try.func93, Try.ntmps93
  go_wp2_with fail
  go_rounds 5
  go_returns
  exact ⟨rfl, by go_grown⟩
end Go.Proofs.Ytbohbhhgmglcdaa
namespace Go.Proofs.Ytbohbhhgmglcdaa
open Go.RowKit
attribute [local irreducible] World.cell?
set_option maxRecDepth 100000 in
set_option maxHeartbeats 1600000 in
theorem idiv_yes (x p q r : Zw) (w : World)
    (hv : ∀ w, Calls Try.prog 78 #[(.agg #[.int .i64 x.a, .int .i64 x.b, .int .i64 x.c, .int .i64 x.d])] w fun e w' => e = .returned (.bool true) ∧ Below w.heap.size w w')
    (ht : ∀ w, Calls Try.prog 94 #[(.agg #[.int .i64 x.a, .int .i64 x.b, .int .i64 x.c, .int .i64 x.d])] w fun e w' => e = .returned (.agg #[.int .i64 p.a, .int .i64 p.b, .int .i64 p.c, .int .i64 p.d]) ∧ Below w.heap.size w w')
    (hh : ∀ w, Calls Try.prog 93 #[(.agg #[.int .i64 p.a, .int .i64 p.b, .int .i64 p.c, .int .i64 p.d])] w fun e w' => e = .returned (.agg #[.int .i64 q.a, .int .i64 q.b, .int .i64 q.c, .int .i64 q.d]) ∧ Below w.heap.size w w')
    (hq : ∀ w, Calls Try.prog 94 #[(.agg #[.int .i64 q.a, .int .i64 q.b, .int .i64 q.c, .int .i64 q.d])] w fun e w' => e = .returned (.agg #[.int .i64 r.a, .int .i64 r.b, .int .i64 r.c, .int .i64 r.d]) ∧ Below w.heap.size w w')
    (hn : ∀ w, (binOp .neq 78 (.agg #[.int .i64 r.a, .int .i64 r.b, .int .i64 r.c, .int .i64 r.d]) (.agg #[.int .i64 x.a, .int .i64 x.b, .int .i64 x.c, .int .i64 x.d])).run Try.prog w = .ok (.bool false) w) :
    Calls Try.prog 92 #[(.agg #[.int .i64 x.a, .int .i64 x.b, .int .i64 x.c, .int .i64 x.d])] w fun e w' => e = .returned (.tuple #[(.agg #[.int .i64 q.a, .int .i64 q.b, .int .i64 q.c, .int .i64 q.d]), .bool true]) ∧ Below w.heap.size w w' := by
  obtain ⟨xa, xb, xc, xd⟩ := x
  obtain ⟨pa, pb, pc, pd⟩ := p
  obtain ⟨qa, qb, qc, qd⟩ := q
  obtain ⟨ra, rb, rc, rd⟩ := r
  have Hv := Lib.hid hv
  have Ht := Lib.hid ht
  have Hh := Lib.hid hh
  have Hq := Lib.hid hq
  clear hv ht hh hq
  simp only [] at hn
  go_enter Try.func92, Try.ntmps92
  go_wp2_with fail
  refine (Hv.out _).mono ?_
  rintro e w1 ⟨rfl, hb1⟩
  have hs1 := hb1.size
  simp at hs1
  obtain ⟨hc1, hf1⟩ := bcell hb1
  have z10 : w.heap.size < w1.heap.size := by omega
  have z11 : w.heap.size + 1 < w1.heap.size := by omega
  have hp1 := below_up (B := w.heap.size) (w := w) (by go_grown) hb1 (by simp; omega)
  clear hb1
  go_wp2_with fail
  refine (coefs ⟨xa, xb, xc, xd⟩ _).mono ?_
  rintro e w2 ⟨rfl, hb2⟩
  have hs2 := hb2.size
  obtain ⟨hc2, hf2⟩ := bcell hb2
  have z20 : w.heap.size < w2.heap.size := by omega
  have z21 : w.heap.size + 1 < w2.heap.size := by omega
  have hp2 := below_up hp1 hb2 (by omega)
  clear hb2
  go_wp2_with fail
  refine (Ht.out _).mono ?_
  rintro e w3 ⟨rfl, hb3⟩
  have hs3 := hb3.size
  simp at hs3
  obtain ⟨hc3, hf3⟩ := bcell hb3
  have z30 : w.heap.size < w3.heap.size := by omega
  have z31 : w.heap.size + 1 < w3.heap.size := by omega
  have z32 : w2.heap.size < w3.heap.size := by omega
  have hp3 := below_up (B := w.heap.size) (w := w) (by go_grown) hb3 (by simp; omega)
  clear hb3
  go_wp2_with fail
  refine (Hh.out _).mono ?_
  rintro e w4 ⟨rfl, hb4⟩
  have hs4 := hb4.size
  obtain ⟨hc4, hf4⟩ := bcell hb4
  have z40 : w.heap.size < w4.heap.size := by omega
  have z41 : w.heap.size + 1 < w4.heap.size := by omega
  have z42 : w2.heap.size < w4.heap.size := by omega
  have hp4 := below_up hp3 hb4 (by omega)
  clear hb4
  go_wp2_with fail
  go_region_with (first | (go_at_call 94; refine (Hq.out _).mono ?_; rintro e w5 ⟨rfl, hb5⟩; have hs5 := hb5.size; simp at hs5; obtain ⟨hc5, hf5⟩ := bcell hb5; have z50 := Nat.lt_of_lt_of_le (Nat.lt_succ_of_lt z40) hs5; have z51 := Nat.lt_of_lt_of_le (Nat.lt_succ_of_lt z41) hs5; have z52 := Nat.lt_of_lt_of_le (Nat.lt_succ_of_lt z42) hs5; have z53 := Nat.lt_of_succ_le hs5; have Hb5 := Lib.hid hb5; clear hb5))
  all_goals go_wp2_with fail
  all_goals
    refine (elem ⟨qa, qb, qc, qd⟩ _).mono ?_
    rintro e w6 ⟨rfl, hb6⟩
    have hs6 := hb6.size
    obtain ⟨hc6, hf6⟩ := bcell hb6
    have z61 : w.heap.size + 1 < w6.heap.size := by omega
    have hp5 := below_up (B := w.heap.size) (w := w) (by go_grown) Hb5.out (by first | omega | (simp; done) | (simp; omega))
    have hp6 := below_up hp5 hb6 (by omega)
    go_wp2_with fail
    refine bodyPost_ret (v := .tuple #[(.agg #[.int .i64 ((Zw.mk qa qb qc qd)).a, .int .i64 ((Zw.mk qa qb qc qd)).b, .int .i64 ((Zw.mk qa qb qc qd)).c, .int .i64 ((Zw.mk qa qb qc qd)).d]), .bool true]) (by simp [results, Try.results92, go_sem, hc1, hc2, hc3, hc4, hc5, hc6, z20, z40, z11, z21, z31, z41, z51]) rfl ⟨rfl, ?_⟩
    go_grown
set_option maxRecDepth 100000 in
set_option maxHeartbeats 1600000 in
theorem idiv_no (x p q r : Zw) (w : World)
    (hv : ∀ w, Calls Try.prog 78 #[(.agg #[.int .i64 x.a, .int .i64 x.b, .int .i64 x.c, .int .i64 x.d])] w fun e w' => e = .returned (.bool true) ∧ Below w.heap.size w w')
    (ht : ∀ w, Calls Try.prog 94 #[(.agg #[.int .i64 x.a, .int .i64 x.b, .int .i64 x.c, .int .i64 x.d])] w fun e w' => e = .returned (.agg #[.int .i64 p.a, .int .i64 p.b, .int .i64 p.c, .int .i64 p.d]) ∧ Below w.heap.size w w')
    (hh : ∀ w, Calls Try.prog 93 #[(.agg #[.int .i64 p.a, .int .i64 p.b, .int .i64 p.c, .int .i64 p.d])] w fun e w' => e = .returned (.agg #[.int .i64 q.a, .int .i64 q.b, .int .i64 q.c, .int .i64 q.d]) ∧ Below w.heap.size w w')
    (hq : ∀ w, Calls Try.prog 94 #[(.agg #[.int .i64 q.a, .int .i64 q.b, .int .i64 q.c, .int .i64 q.d])] w fun e w' => e = .returned (.agg #[.int .i64 r.a, .int .i64 r.b, .int .i64 r.c, .int .i64 r.d]) ∧ Below w.heap.size w w')
    (hn : ∀ w, (binOp .neq 78 (.agg #[.int .i64 r.a, .int .i64 r.b, .int .i64 r.c, .int .i64 r.d]) (.agg #[.int .i64 x.a, .int .i64 x.b, .int .i64 x.c, .int .i64 x.d])).run Try.prog w = .ok (.bool true) w) :
    Calls Try.prog 92 #[(.agg #[.int .i64 x.a, .int .i64 x.b, .int .i64 x.c, .int .i64 x.d])] w fun e w' => e = .returned (.tuple #[(.agg #[.int .i64 Zw.zero.a, .int .i64 Zw.zero.b, .int .i64 Zw.zero.c, .int .i64 Zw.zero.d]), .bool false]) ∧ Below w.heap.size w w' := by
  obtain ⟨xa, xb, xc, xd⟩ := x
  obtain ⟨pa, pb, pc, pd⟩ := p
  obtain ⟨qa, qb, qc, qd⟩ := q
  obtain ⟨ra, rb, rc, rd⟩ := r
  have Hv := Lib.hid hv
  have Ht := Lib.hid ht
  have Hh := Lib.hid hh
  have Hq := Lib.hid hq
  clear hv ht hh hq
  simp only [] at hn
  go_enter Try.func92, Try.ntmps92
  go_wp2_with fail
  refine (Hv.out _).mono ?_
  rintro e w1 ⟨rfl, hb1⟩
  have hs1 := hb1.size
  simp at hs1
  obtain ⟨hc1, hf1⟩ := bcell hb1
  have z10 : w.heap.size < w1.heap.size := by omega
  have z11 : w.heap.size + 1 < w1.heap.size := by omega
  have hp1 := below_up (B := w.heap.size) (w := w) (by go_grown) hb1 (by simp; omega)
  clear hb1
  go_wp2_with fail
  refine (coefs ⟨xa, xb, xc, xd⟩ _).mono ?_
  rintro e w2 ⟨rfl, hb2⟩
  have hs2 := hb2.size
  obtain ⟨hc2, hf2⟩ := bcell hb2
  have z20 : w.heap.size < w2.heap.size := by omega
  have z21 : w.heap.size + 1 < w2.heap.size := by omega
  have hp2 := below_up hp1 hb2 (by omega)
  clear hb2
  go_wp2_with fail
  refine (Ht.out _).mono ?_
  rintro e w3 ⟨rfl, hb3⟩
  have hs3 := hb3.size
  simp at hs3
  obtain ⟨hc3, hf3⟩ := bcell hb3
  have z30 : w.heap.size < w3.heap.size := by omega
  have z31 : w.heap.size + 1 < w3.heap.size := by omega
  have z32 : w2.heap.size < w3.heap.size := by omega
  have hp3 := below_up (B := w.heap.size) (w := w) (by go_grown) hb3 (by simp; omega)
  clear hb3
  go_wp2_with fail
  refine (Hh.out _).mono ?_
  rintro e w4 ⟨rfl, hb4⟩
  have hs4 := hb4.size
  obtain ⟨hc4, hf4⟩ := bcell hb4
  have z40 : w.heap.size < w4.heap.size := by omega
  have z41 : w.heap.size + 1 < w4.heap.size := by omega
  have z42 : w2.heap.size < w4.heap.size := by omega
  have hp4 := below_up hp3 hb4 (by omega)
  clear hb4
  go_wp2_with fail
  go_region_with (first | (go_at_call 94; refine (Hq.out _).mono ?_; rintro e w5 ⟨rfl, hb5⟩; have hs5 := hb5.size; simp at hs5; obtain ⟨hc5, hf5⟩ := bcell hb5; have z50 := Nat.lt_of_lt_of_le (Nat.lt_succ_of_lt z40) hs5; have z51 := Nat.lt_of_lt_of_le (Nat.lt_succ_of_lt z41) hs5; have z52 := Nat.lt_of_lt_of_le (Nat.lt_succ_of_lt z42) hs5; have z53 := Nat.lt_of_succ_le hs5; have Hb5 := Lib.hid hb5; clear hb5))
  all_goals go_wp2_with fail
  all_goals
    have hp5 := below_up (B := w.heap.size) (w := w) (by go_grown) Hb5.out (by first | omega | (simp; done) | (simp; omega))
    refine bodyPost_ret (v := .tuple #[(.agg #[.int .i64 Zw.zero.a, .int .i64 Zw.zero.b, .int .i64 Zw.zero.c, .int .i64 Zw.zero.d]), .bool false]) (by simp [results, Try.results92, go_sem, hc1, hc2, hc3, hc4, hc5, z20, z40, z11, z21, z31, z41, Zw.zero]) rfl ⟨rfl, ?_⟩
    go_grown
set_option maxRecDepth 100000 in
set_option maxHeartbeats 800000 in
theorem idiv_bad (x : Zw) (w : World) (h : ¬ x.ok) :
    Calls Try.prog 92 #[(.agg #[.int .i64 x.a, .int .i64 x.b, .int .i64 x.c, .int .i64 x.d])] w fun e w' => e = .returned (.tuple #[(.agg #[.int .i64 Zw.zero.a, .int .i64 Zw.zero.b, .int .i64 Zw.zero.c, .int .i64 Zw.zero.d]), .bool false]) ∧ Below w.heap.size w w' := by
  obtain ⟨a, b, c, d⟩ := x
  have Hv := Lib.hid (okB_false.2 h)
  clear h
  go_enter Try.func92, Try.ntmps92
  go_wp2_with fail
  refine (ivalid_any ⟨a, b, c, d⟩ false _ Hv.out).mono ?_
  rintro e w1 ⟨rfl, hb1⟩
  have hs1 := hb1.size
  simp at hs1
  obtain ⟨hc1, hf1⟩ := bcell hb1
  have z11 : w.heap.size + 1 < w1.heap.size := by omega
  have hp1 := below_up (B := w.heap.size) (w := w) (by go_grown) hb1 (by first | omega | (simp; done) | (simp; omega))
  go_wp2_with fail
  refine bodyPost_ret (v := .tuple #[(.agg #[.int .i64 Zw.zero.a, .int .i64 Zw.zero.b, .int .i64 Zw.zero.c, .int .i64 Zw.zero.d]), .bool false]) (by simp [results, Try.results92, go_sem, hc1, Zw.zero]) rfl ⟨rfl, ?_⟩
  go_grown
theorem idiv_any (x : Zw) (w : World) :
    Calls Try.prog 92 #[(.agg #[.int .i64 x.a, .int .i64 x.b, .int .i64 x.c, .int .i64 x.d])] w fun e w' => e = .returned (.tuple #[(.agg #[.int .i64 (divV x).a, .int .i64 (divV x).b, .int .i64 (divV x).c, .int .i64 (divV x).d]), .bool (divB x)]) ∧ Below w.heap.size w w' := by
  by_cases h : x.ok
  · have hn : ∀ w, (binOp .neq 78 (.agg #[.int .i64 x.root.thalf.root.a, .int .i64 x.root.thalf.root.b, .int .i64 x.root.thalf.root.c, .int .i64 x.root.thalf.root.d]) (.agg #[.int .i64 x.a, .int .i64 x.b, .int .i64 x.c, .int .i64 x.d])).run Try.prog w = .ok (.bool (!decide (x.root.even))) w := by
      intro w
      rw [eq4]
      congr 3
      rw [Bool.eq_iff_iff]
      simp only [Bool.and_eq_true, decide_eq_true_eq]
      rw [← thalf_root]
      exact ⟨fun ⟨⟨⟨h1, h2⟩, h3⟩, h4⟩ => Zw.ext4 h1 h2 h3 h4, fun e => by rw [e]; exact ⟨⟨⟨rfl, rfl⟩, rfl⟩, rfl⟩⟩
    have hr : x.root.i64 := by
      obtain ⟨a, b, c, d⟩ := x
      simp only [Zw.root, Zw.ok, Zw.i64, Near, I64] at *
      omega
    by_cases k : x.root.even
    · rw [decide_eq_true k] at hn
      have := idiv_yes x x.root x.root.thalf x.root.thalf.root w (fun w => ivalid_any x true w (okB_true.2 h)) (fun w => tsq x w h) (fun w => halv x.root w hr) (fun w => tsq x.root.thalf w (thalf_ok h)) hn
      rw [show divV x = x.root.thalf by rw [thalf_half k]; simp [divV, h, k], show divB x = true by simp [divB, h, k]]
      exact this
    · rw [decide_eq_false k] at hn
      have := idiv_no x x.root x.root.thalf x.root.thalf.root w (fun w => ivalid_any x true w (okB_true.2 h)) (fun w => tsq x w h) (fun w => halv x.root w hr) (fun w => tsq x.root.thalf w (thalf_ok h)) hn
      rw [show divV x = Zw.zero by simp [divV, k], show divB x = false by simp [divB, k]]
      exact this
  · rw [show divV x = Zw.zero by simp [divV, h], show divB x = false by simp [divB, h]]
    exact idiv_bad x w h
end Go.Proofs.Ytbohbhhgmglcdaa
namespace Go.Proofs.Ytbohbhhgmglcdaa
open Go.RowKit
attribute [local irreducible] World.cell?
set_option maxRecDepth 100000 in
set_option maxHeartbeats 1600000 in
theorem sdiv_yes (x : Zw) (w : World) (h : x.ok) (k : x.root.even) :
    Calls Try.prog 82 #[(.agg #[.int .i64 x.a, .int .i64 x.b, .int .i64 x.c, .int .i64 x.d])] w fun e w' => e = .returned (.tuple #[(.agg #[.int .i64 x.root.thalf.a, .int .i64 x.root.thalf.b, .int .i64 x.root.thalf.c, .int .i64 x.root.thalf.d]), .bool true]) ∧ Below w.heap.size w w' := by
  obtain ⟨a, b, c, d⟩ := x
  have Hv := Lib.hid (okB_true.2 h)
  obtain ⟨⟨a0, a1⟩, ⟨b0, b1⟩, ⟨c0, c1⟩, ⟨d0, d1⟩⟩ := h
  obtain ⟨k1, k2, k3, k4⟩ := k
  simp only [Zw.root] at a0 a1 b0 b1 c0 c1 d0 d1 k1 k2 k3 k4
  rw [← tmod2] at k1 k2 k3 k4
  go_enter Try.func82, Try.ntmps82
  go_wp2_with fail
  refine (svalid_any ⟨a, b, c, d⟩ true _ Hv.out).mono ?_
  rintro e w1 ⟨rfl, hb1⟩
  have hs1 := hb1.size
  simp at hs1
  obtain ⟨hc1, hf1⟩ := bcell hb1
  have z10 : w.heap.size < w1.heap.size := by omega
  have z11 : w.heap.size + 1 < w1.heap.size := by omega
  have hp1 := below_up (B := w.heap.size) (w := w) (by go_grown) hb1 (by first | omega | (simp; done) | (simp; omega))
  go_wp2_with fail
  refine bodyPost_ret (v := .tuple #[(.agg #[.int .i64 ((Zw.mk a b c d).root.thalf).a, .int .i64 ((Zw.mk a b c d).root.thalf).b, .int .i64 ((Zw.mk a b c d).root.thalf).c, .int .i64 ((Zw.mk a b c d).root.thalf).d]), .bool true]) (by simp [results, Try.results82, go_sem, hc1, z11, Zw.root, Zw.thalf]) rfl ⟨rfl, ?_⟩
  go_grown
set_option maxRecDepth 100000 in
set_option maxHeartbeats 1600000 in
theorem sdiv_no (x : Zw) (w : World) (h : x.ok) (k : ¬ x.root.even) :
    Calls Try.prog 82 #[(.agg #[.int .i64 x.a, .int .i64 x.b, .int .i64 x.c, .int .i64 x.d])] w fun e w' => e = .returned (.tuple #[(.agg #[.int .i64 Zw.zero.a, .int .i64 Zw.zero.b, .int .i64 Zw.zero.c, .int .i64 Zw.zero.d]), .bool false]) ∧ Below w.heap.size w w' := by
  obtain ⟨a, b, c, d⟩ := x
  have Hv := Lib.hid (okB_true.2 h)
  obtain ⟨⟨a0, a1⟩, ⟨b0, b1⟩, ⟨c0, c1⟩, ⟨d0, d1⟩⟩ := h
  simp only [Zw.root, Zw.even] at a0 a1 b0 b1 c0 c1 d0 d1 k
  rw [← tmod2, ← tmod2, ← tmod2, ← tmod2] at k
  have Hk := Lib.hid k
  clear k
  go_enter Try.func82, Try.ntmps82
  go_wp2_with fail
  refine (svalid_any ⟨a, b, c, d⟩ true _ Hv.out).mono ?_
  rintro e w1 ⟨rfl, hb1⟩
  have hs1 := hb1.size
  simp at hs1
  obtain ⟨hc1, hf1⟩ := bcell hb1
  have z10 : w.heap.size < w1.heap.size := by omega
  have z11 : w.heap.size + 1 < w1.heap.size := by omega
  have hp1 := below_up (B := w.heap.size) (w := w) (by go_grown) hb1 (by first | omega | (simp; done) | (simp; omega))
  go_wp2_with fail
  all_goals try (exfalso; exact Hk.out ⟨‹(b - d).tmod 2 = 0›, ‹(a + c).tmod 2 = 0›, ‹(b + d).tmod 2 = 0›, by simpa using ‹((c - a).tmod 2 != 0) = false›⟩)
  all_goals
    refine bodyPost_ret (v := .tuple #[(.agg #[.int .i64 Zw.zero.a, .int .i64 Zw.zero.b, .int .i64 Zw.zero.c, .int .i64 Zw.zero.d]), .bool false]) (by simp [results, Try.results82, go_sem, hc1, z11, Zw.zero]) rfl ⟨rfl, ?_⟩
    go_grown
theorem sdiv_bad (x : Zw) (w : World) (h : ¬ x.ok) :
    Calls Try.prog 82 #[(.agg #[.int .i64 x.a, .int .i64 x.b, .int .i64 x.c, .int .i64 x.d])] w fun e w' => e = .returned (.tuple #[(.agg #[.int .i64 Zw.zero.a, .int .i64 Zw.zero.b, .int .i64 Zw.zero.c, .int .i64 Zw.zero.d]), .bool false]) ∧ Below w.heap.size w w' := by
  obtain ⟨a, b, c, d⟩ := x
  have Hv := Lib.hid (okB_false.2 h)
  clear h
  go_enter Try.func82, Try.ntmps82
  go_wp2_with fail
  refine (svalid_any ⟨a, b, c, d⟩ false _ Hv.out).mono ?_
  rintro e w1 ⟨rfl, hb1⟩
  have hs1 := hb1.size
  simp at hs1
  obtain ⟨hc1, hf1⟩ := bcell hb1
  have z11 : w.heap.size + 1 < w1.heap.size := by omega
  have hp1 := below_up (B := w.heap.size) (w := w) (by go_grown) hb1 (by first | omega | (simp; done) | (simp; omega))
  go_wp2_with fail
  refine bodyPost_ret (v := .tuple #[(.agg #[.int .i64 Zw.zero.a, .int .i64 Zw.zero.b, .int .i64 Zw.zero.c, .int .i64 Zw.zero.d]), .bool false]) (by simp [results, Try.results82, go_sem, hc1, Zw.zero]) rfl ⟨rfl, ?_⟩
  go_grown
theorem sdiv_any (x : Zw) (w : World) :
    Calls Try.prog 82 #[(.agg #[.int .i64 x.a, .int .i64 x.b, .int .i64 x.c, .int .i64 x.d])] w fun e w' => e = .returned (.tuple #[(.agg #[.int .i64 (divV x).a, .int .i64 (divV x).b, .int .i64 (divV x).c, .int .i64 (divV x).d]), .bool (divB x)]) ∧ Below w.heap.size w w' := by
  by_cases h : x.ok
  · by_cases k : x.root.even
    · have := sdiv_yes x w h k
      rw [show divV x = x.root.thalf by rw [thalf_half k]; simp [divV, h, k], show divB x = true by simp [divB, h, k]]
      exact this
    · rw [show divV x = Zw.zero by simp [divV, k], show divB x = false by simp [divB, k]]
      exact sdiv_no x w h k
  · rw [show divV x = Zw.zero by simp [divV, h], show divB x = false by simp [divB, h]]
    exact sdiv_bad x w h
theorem toZ (x : Zw) (w : World) :
    Calls Try.prog 65 #[(.agg #[.int .i64 x.a, .int .i64 x.b, .int .i64 x.c, .int .i64 x.d])] w fun e w' => e = .returned (.agg #[.int .i64 x.a, .int .i64 x.b, .int .i64 x.c, .int .i64 x.d]) ∧ Below w.heap.size w w' := by
  go_enter Try.func65, Try.ntmps65
  go_wp2_with fail
  refine bodyPost_ret (v := (.agg #[.int .i64 x.a, .int .i64 x.b, .int .i64 x.c, .int .i64 x.d])) (by simp [results, Try.results65, go_sem]) rfl ⟨rfl, ?_⟩
  go_grown
theorem eqZ (x : Zw) (w : World) :
    Calls Try.prog 66 #[(.agg #[.int .i64 x.a, .int .i64 x.b, .int .i64 x.c, .int .i64 x.d]), (.agg #[.int .i64 x.a, .int .i64 x.b, .int .i64 x.c, .int .i64 x.d])] w fun e w' => e = .returned (.bool true) ∧ Below w.heap.size w w' := by
  go_enter Try.func66, Try.ntmps66
  go_wp2_with fail
  go_returns
  exact ⟨rfl, by go_grown⟩
end Go.Proofs.Ytbohbhhgmglcdaa
namespace Go.Proofs.Ytbohbhhgmglcdaa
theorem near_neg {n : Int} : Near (-n) ↔ Near n := by unfold Near; omega
theorem add_comm' (x y : Zw) : y.add x = x.add y := by
  simp only [Zw.add, Zw.mk.injEq]; omega
theorem mul_comm' (x y : Zw) : y.mul x = x.mul y := by
  simp only [Zw.mul, Zw.mk.injEq, Int.mul_comm y.a, Int.mul_comm y.b, Int.mul_comm y.c, Int.mul_comm y.d]; omega
theorem addB_comm (x y : Zw) : addB y x = addB x y := by
  unfold addB; rw [add_comm']; rw [Bool.eq_iff_iff]; simp only [decide_eq_true_eq]; exact ⟨fun ⟨a, b, c⟩ => ⟨b, a, c⟩, fun ⟨a, b, c⟩ => ⟨b, a, c⟩⟩
theorem mulB_comm (x y : Zw) : mulB y x = mulB x y := by
  unfold mulB; rw [mul_comm']; rw [Bool.eq_iff_iff]; simp only [decide_eq_true_eq]; exact ⟨fun ⟨a, b, c⟩ => ⟨b, a, c⟩, fun ⟨a, b, c⟩ => ⟨b, a, c⟩⟩
theorem addB_iff {x y : Zw} : addB x y = true ↔ x.ok ∧ y.ok ∧ (x.add y).ok := by simp [addB]
theorem mulB_iff {x y : Zw} : mulB x y = true ↔ x.ok ∧ y.ok ∧ (x.mul y).ok := by simp [mulB]
theorem divB_iff {x : Zw} : divB x = true ↔ x.ok ∧ x.root.even := by simp [divB]
theorem addV_of {x y : Zw} (h : addB x y = true) : addV x y = x.add y := if_pos (addB_iff.1 h)
theorem addV_no {x y : Zw} (h : addB x y = false) : addV x y = .zero := if_neg (by simpa [addB] using h)
theorem mulV_of {x y : Zw} (h : mulB x y = true) : mulV x y = x.mul y := if_pos (mulB_iff.1 h)
theorem divV_of {x : Zw} (h : divB x = true) : divV x = x.root.half := if_pos (divB_iff.1 h)
theorem addV_comm (x y : Zw) : addV y x = addV x y := by
  cases h : addB x y
  · rw [addV_no h, addV_no ((addB_comm x y).trans h)]
  · rw [addV_of h, addV_of ((addB_comm x y).trans h), add_comm']
theorem mulV_comm (x y : Zw) : mulV y x = mulV x y := by
  cases h : mulB x y
  · rw [show mulV x y = .zero from if_neg (by simpa [mulB] using h), show mulV y x = .zero from if_neg (by simpa [mulB] using (mulB_comm x y).trans h)]
  · rw [mulV_of h, mulV_of ((mulB_comm x y).trans h), mul_comm']
theorem neg_ok {x : Zw} : x.neg.ok ↔ x.ok := by simp only [Zw.neg, Zw.ok, near_neg]
theorem conj_ok {x : Zw} : x.conj.ok ↔ x.ok := by
  simp only [Zw.conj, Zw.ok, near_neg]; exact ⟨fun ⟨a, b, c, d⟩ => ⟨a, d, c, b⟩, fun ⟨a, b, c, d⟩ => ⟨a, d, c, b⟩⟩
theorem bar_ok {x : Zw} : x.bar.ok ↔ x.ok := by simp only [Zw.bar, Zw.ok, near_neg]
theorem addV_ok {x y : Zw} (h : addB x y = true) : (addV x y).ok := by rw [addV_of h]; exact (addB_iff.1 h).2.2
/-- The sum less y is x. -/
theorem add_back {x y : Zw} (h : addB x y = true) : addB (addV x y) (negV y) = true ∧ addV (addV x y) (negV y) = x := by
  obtain ⟨hx, hy, hs⟩ := addB_iff.1 h
  have e : (x.add y).add y.neg = x := by cases x; cases y; simp only [Zw.add, Zw.neg, Zw.mk.injEq]; omega
  have en : negV y = y.neg := if_pos hy
  have hb : addB (x.add y) y.neg = true := addB_iff.2 ⟨hs, neg_ok.2 hy, by rw [e]; exact hx⟩
  rw [en, addV_of h]
  exact ⟨hb, by rw [addV_of hb, e]⟩
theorem conj_mul (x y : Zw) : x.conj.mul y.conj = (x.mul y).conj := by
  simp only [Zw.conj, Zw.mul, Zw.mk.injEq, Int.mul_neg, Int.neg_mul]; omega
theorem bar_mul (x y : Zw) : x.bar.mul y.bar = (x.mul y).bar := by
  simp only [Zw.bar, Zw.mul, Zw.mk.injEq, Int.mul_neg, Int.neg_mul]; omega
theorem conj_hom {x y : Zw} (h : mulB x y = true) : mulB (conjV x) (conjV y) = true ∧ mulV (conjV x) (conjV y) = conjV (mulV x y) := by
  obtain ⟨hx, hy, hp⟩ := mulB_iff.1 h
  rw [mulV_of h, show conjV x = x.conj from if_pos hx, show conjV y = y.conj from if_pos hy, show conjV (x.mul y) = (x.mul y).conj from if_pos hp]
  have hb : mulB x.conj y.conj = true := mulB_iff.2 ⟨conj_ok.2 hx, conj_ok.2 hy, by rw [conj_mul]; exact conj_ok.2 hp⟩
  exact ⟨hb, by rw [mulV_of hb, conj_mul]⟩
theorem bar_hom {x y : Zw} (h : mulB x y = true) : mulB (barV x) (barV y) = true ∧ mulV (barV x) (barV y) = barV (mulV x y) := by
  obtain ⟨hx, hy, hp⟩ := mulB_iff.1 h
  rw [mulV_of h, show barV x = x.bar from if_pos hx, show barV y = y.bar from if_pos hy, show barV (x.mul y) = (x.mul y).bar from if_pos hp]
  have hb : mulB x.bar y.bar = true := mulB_iff.2 ⟨bar_ok.2 hx, bar_ok.2 hy, by rw [bar_mul]; exact bar_ok.2 hp⟩
  exact ⟨hb, by rw [mulV_of hb, bar_mul]⟩
theorem conj_conj {x : Zw} (h : x.ok) : conjV (conjV x) = x := by
  rw [show conjV x = x.conj from if_pos h, show conjV x.conj = x.conj.conj from if_pos (conj_ok.2 h)]
  cases x; simp [Zw.conj]
theorem bar_bar {x : Zw} (h : x.ok) : barV (barV x) = x := by
  rw [show barV x = x.bar from if_pos h, show barV x.bar = x.bar.bar from if_pos (bar_ok.2 h)]
  cases x; simp [Zw.bar]
theorem add_mul' (x y z : Zw) : (x.add y).mul z = (x.mul z).add (y.mul z) := by
  simp only [Zw.add, Zw.mul, Zw.mk.injEq, Int.add_mul]; omega
theorem spreads {x y z : Zw} (h1 : addB x y = true) (h2 : mulB x z = true) (h3 : mulB y z = true) (h4 : mulB (addV x y) z = true) (h5 : addB (mulV x z) (mulV y z) = true) :
    mulV (addV x y) z = addV (mulV x z) (mulV y z) := by
  rw [mulV_of h4, addV_of h5, mulV_of h2, mulV_of h3, addV_of h1, add_mul']
def rootE : Zw := ⟨0, 1, 0, -1⟩
theorem rootE_ok : rootE.ok := by decide
theorem mul_rootE (y : Zw) : y.mul rootE = y.root := by
  simp only [rootE, Zw.mul, Zw.root, Zw.mk.injEq, Int.mul_zero, Int.mul_one, Int.mul_neg]; omega
theorem half_ok {x : Zw} (h : x.ok) (k : x.root.even) : x.root.half.ok := by rw [← thalf_half k]; exact thalf_ok h
theorem half_root {x : Zw} (k : x.root.even) : x.root.half.root = x := by rw [← thalf_half k]; exact thalf_root.2 k
theorem div_back {x : Zw} (h : divB x = true) : mulB (divV x) rootE = true ∧ mulV (divV x) rootE = x := by
  obtain ⟨hx, hk⟩ := divB_iff.1 h
  have e : (x.root.half).mul rootE = x := by rw [mul_rootE, half_root hk]
  have hb : mulB x.root.half rootE = true := mulB_iff.2 ⟨half_ok hx hk, rootE_ok, by rw [e]; exact hx⟩
  rw [divV_of h]
  exact ⟨hb, by rw [mulV_of hb, e]⟩
theorem root_back {x : Zw} (h : mulB x rootE = true) : divB (mulV x rootE) = true ∧ divV (mulV x rootE) = x := by
  obtain ⟨_, _, hp⟩ := mulB_iff.1 h
  rw [mulV_of h]
  rw [mul_rootE] at hp ⊢
  have e : x.root.root.even ∧ x.root.root.half = x := by
    obtain ⟨a, b, c, d⟩ := x
    simp only [Zw.root, Zw.even, Zw.half, Zw.mk.injEq]
    omega
  have hb : divB x.root = true := divB_iff.2 ⟨hp, e.1⟩
  exact ⟨hb, by rw [divV_of hb, e.2]⟩
end Go.Proofs.Ytbohbhhgmglcdaa
namespace Go.Proofs.Ytbohbhhgmglcdaa
/-- x times the k-th power of the root of 2. -/
def rootN : Nat → Zw → Zw
  | 0, x => x
  | k + 1, x => rootN k x.root
theorem rootN_add (j k : Nat) (x : Zw) : rootN (j + k) x = rootN k (rootN j x) := by
  induction j generalizing x with
  | zero => rw [Nat.zero_add]; rfl
  | succ j ih => rw [Nat.succ_add]; exact ih x.root
theorem rootN_succ (k : Nat) (x : Zw) : rootN (k + 1) x = (rootN k x).root := rootN_add k 1 x
theorem root_inj {x y : Zw} (h : x.root = y.root) : x = y := by
  obtain ⟨a, b, c, d⟩ := x
  obtain ⟨e, f, g, i⟩ := y
  simp only [Zw.root, Zw.mk.injEq] at *
  omega
theorem rootN_inj {k : Nat} {x y : Zw} (h : rootN k x = rootN k y) : x = y := by
  induction k generalizing x y with
  | zero => exact h
  | succ k ih => exact root_inj (ih h)
theorem root_add (x y : Zw) : (x.add y).root = x.root.add y.root := by
  simp only [Zw.root, Zw.add, Zw.mk.injEq]; omega
theorem rootN_addZ (k : Nat) (x y : Zw) : rootN k (x.add y) = (rootN k x).add (rootN k y) := by
  induction k generalizing x y with
  | zero => rfl
  | succ k ih => show rootN k (x.add y).root = _; rw [root_add]; exact ih _ _
theorem root_mul (x y : Zw) : (x.mul y).root = x.root.mul y := by
  simp only [Zw.root, Zw.mul, Zw.mk.injEq, Int.sub_mul, Int.add_mul]; omega
theorem rootN_mul (k : Nat) (x y : Zw) : rootN k (x.mul y) = (rootN k x).mul y := by
  induction k generalizing x with
  | zero => rfl
  | succ k ih => show rootN k (x.mul y).root = _; rw [root_mul]; exact ih _
theorem rootN_mul2 (j k : Nat) (x y : Zw) : rootN (j + k) (x.mul y) = (rootN j x).mul (rootN k y) := by
  rw [rootN_add, rootN_mul, mul_comm' y (rootN j x), rootN_mul, mul_comm' (rootN j x) (rootN k y)]
theorem root_conj (x : Zw) : x.conj.root = x.root.conj := by
  simp only [Zw.root, Zw.conj, Zw.mk.injEq]; omega
theorem rootN_conj (k : Nat) (x : Zw) : rootN k x.conj = (rootN k x).conj := by
  induction k generalizing x with
  | zero => rfl
  | succ k ih => show rootN k x.conj.root = _; rw [root_conj]; exact ih _
theorem root_neg (x : Zw) : x.neg.root = x.root.neg := by
  simp only [Zw.root, Zw.neg, Zw.mk.injEq]; omega
theorem rootN_neg (k : Nat) (x : Zw) : rootN k x.neg = (rootN k x).neg := by
  induction k generalizing x with
  | zero => rfl
  | succ k ih => show rootN k x.neg.root = _; rw [root_neg]; exact ih _
/-- One fraction has the value of another. -/
def Same (n : Zw) (k : Nat) (m : Zw) (j : Nat) : Prop := rootN j n = rootN k m
theorem Same.symm {n m : Zw} {k j : Nat} (h : Same n k m j) : Same m j n k := Eq.symm h
theorem Same.trans {n m r : Zw} {k j i : Nat} (h : Same n k m j) (h2 : Same m j r i) : Same n k r i := by
  unfold Same at *
  apply rootN_inj (k := j)
  rw [← rootN_add, ← rootN_add, Nat.add_comm i j, Nat.add_comm k j, rootN_add j i, h, rootN_add j k, ← h2, ← rootN_add, ← rootN_add, Nat.add_comm]
theorem Same.up (n : Zw) (k i : Nat) : Same (rootN i n) (k + i) n k := by
  unfold Same; rw [← rootN_add, Nat.add_comm k i]
/-- A fraction: the numerator and the power of the root of 2 below it. -/
structure Dw where
  n : Zw
  e : Int
def Dw.zero : Dw := ⟨.zero, 0⟩
def Dw.ok (x : Dw) : Prop := x.n.ok ∧ 0 ≤ x.e ∧ x.e ≤ 60 ∧ (x.e = 0 ∨ divB x.n = false)
instance (x : Dw) : Decidable x.ok := inferInstanceAs (Decidable (_ ∧ _))
/-- Factors of the root cancel, k times at the most. -/
def red : Nat → Zw → Zw × Nat
  | 0, n => (n, 0)
  | k + 1, n => if divB n then red k (divV n) else (n, k + 1)
theorem divV_root {n : Zw} (h : divB n = true) : (divV n).root = n ∧ (divV n).ok := by
  rw [divV_of h]
  exact ⟨half_root (divB_iff.1 h).2, half_ok (divB_iff.1 h).1 (divB_iff.1 h).2⟩
theorem red_le (k : Nat) (n : Zw) : (red k n).2 ≤ k := by
  induction k generalizing n with
  | zero => exact Nat.le_refl _
  | succ k ih =>
    unfold red
    split
    · exact Nat.le_succ_of_le (ih _)
    · exact Nat.le_refl _
theorem red_same (k : Nat) (n : Zw) : rootN (k - (red k n).2) (red k n).1 = n := by
  induction k generalizing n with
  | zero => rfl
  | succ k ih =>
    unfold red
    split
    · rename_i h
      rw [show k + 1 - (red k (divV n)).2 = (k - (red k (divV n)).2) + 1 by have := red_le k (divV n); omega, rootN_succ, ih, (divV_root h).1]
    · simp [rootN]
theorem red_same' (k : Nat) (n : Zw) : Same (red k n).1 (red k n).2 n k := by
  have h := Same.up (red k n).1 (red k n).2 (k - (red k n).2)
  rw [red_same, show (red k n).2 + (k - (red k n).2) = k by have := red_le k n; omega] at h
  exact h.symm
theorem red_ok {k : Nat} {n : Zw} (h : n.ok) : (red k n).1.ok := by
  induction k generalizing n with
  | zero => exact h
  | succ k ih =>
    unfold red
    split
    · rename_i h1; exact ih (divV_root h1).2
    · exact h
theorem red_done (k : Nat) (n : Zw) : (red k n).2 = 0 ∨ divB (red k n).1 = false := by
  induction k generalizing n with
  | zero => exact .inl rfl
  | succ k ih =>
    unfold red
    split
    · exact ih _
    · rename_i h; exact .inr (by simpa using h)
/-- NewDOmega. -/
def newB (n : Zw) (k : Int) : Bool := decide (n.ok ∧ 0 ≤ k ∧ k ≤ 120 ∧ (red k.toNat n).2 ≤ 60)
def newV (n : Zw) (k : Int) : Dw := if newB n k then ⟨(red k.toNat n).1, (red k.toNat n).2⟩ else .zero
theorem newB_iff {n : Zw} {k : Int} : newB n k = true ↔ n.ok ∧ 0 ≤ k ∧ k ≤ 120 ∧ (red k.toNat n).2 ≤ 60 := by simp [newB]
theorem newV_of {n : Zw} {k : Int} (h : newB n k = true) : newV n k = ⟨(red k.toNat n).1, (red k.toNat n).2⟩ := if_pos h
theorem newV_ok {n : Zw} {k : Int} (h : newB n k = true) : (newV n k).ok := by
  rw [newV_of h]
  obtain ⟨h1, h2, h3, h4⟩ := newB_iff.1 h
  refine ⟨red_ok h1, Int.natCast_nonneg _, by show (((red k.toNat n).2 : Nat) : Int) ≤ 60; omega, ?_⟩
  rcases red_done k.toNat n with h | h
  · exact .inl (by show (((red k.toNat n).2 : Nat) : Int) = 0; omega)
  · exact .inr h
/-- Equal values have equal reduced representations. -/
theorem unique_aux {n m : Zw} {k j : Nat} (hn : n.ok) (_ : m.ok) (hk : k = 0 ∨ divB n = false) (h : Same n k m j) (hjk : j ≤ k) : n = m ∧ k = j := by
  by_cases e : k = j
  · subst e; exact ⟨rootN_inj h, rfl⟩
  · exfalso
    have hk0 : k = (k - j - 1) + 1 + j := by omega
    have h2 : n = (rootN (k - j - 1) m).root := by
      apply rootN_inj (k := j)
      unfold Same at h
      rw [h, ← rootN_succ, ← rootN_add, ← hk0]
    rcases hk with hk | hk
    · omega
    · have : divB n = true := by
        refine divB_iff.2 ⟨hn, ?_⟩
        rw [h2]
        generalize rootN (k - j - 1) m = z
        obtain ⟨a, b, c, d⟩ := z
        simp only [Zw.root, Zw.even]
        omega
      rw [this] at hk
      cases hk
theorem unique {x y : Dw} (hx : x.ok) (hy : y.ok) (h : Same x.n x.e.toNat y.n y.e.toNat) : x = y := by
  obtain ⟨h1, h2, h3, h4⟩ := hx
  obtain ⟨k1, k2, k3, k4⟩ := hy
  have hh : x.n = y.n ∧ x.e.toNat = y.e.toNat := by
    rcases Nat.le_total y.e.toNat x.e.toNat with hl | hl
    · exact unique_aux h1 k1 (h4.elim (fun e => .inl (by omega)) .inr) h hl
    · obtain ⟨a, b⟩ := unique_aux k1 h1 (k4.elim (fun e => .inl (by omega)) .inr) h.symm hl
      exact ⟨a.symm, b.symm⟩
  obtain ⟨n, e⟩ := x
  obtain ⟨m, f⟩ := y
  obtain ⟨rfl, hef⟩ := hh
  congr 1
  simp only [] at h2 k2 hef
  omega
theorem newV_same {n : Zw} {k : Int} (h : newB n k = true) : Same (newV n k).n (newV n k).e.toNat n k.toNat := by
  rw [newV_of h]
  simpa using red_same' k.toNat n
/-- A valid fraction is its own representation. -/
theorem newV_self {x : Dw} (h : x.ok) : newB x.n x.e = true ∧ newV x.n x.e = x := by
  obtain ⟨h1, h2, h3, h4⟩ := h
  have hr : red x.e.toNat x.n = (x.n, x.e.toNat) := by
    rcases h4 with h4 | h4
    · rw [h4]; rfl
    · cases hk : x.e.toNat with
      | zero => rfl
      | succ k => unfold red; rw [h4]; rfl
  have hb : newB x.n x.e = true := newB_iff.2 ⟨h1, h2, by omega, by rw [hr]; show x.e.toNat ≤ 60; omega⟩
  refine ⟨hb, ?_⟩
  rw [newV_of hb, hr]
  obtain ⟨n, e⟩ := x
  congr 1
  show ((e.toNat : Nat) : Int) = e
  exact Int.toNat_of_nonneg h2
end Go.Proofs.Ytbohbhhgmglcdaa
namespace Go.Proofs.Ytbohbhhgmglcdaa
theorem rootN_comm (j k : Nat) (x : Zw) : rootN j (rootN k x) = rootN k (rootN j x) := by
  rw [← rootN_add, ← rootN_add, Nat.add_comm]
/-- n is multiplied by the root k times within the limit. -/
def upB : Nat → Zw → Bool
  | 0, _ => true
  | k + 1, n => mulB n rootE && upB k n.root
def upV (k : Nat) (n : Zw) : Zw := if upB k n then rootN k n else .zero
theorem upV_of {k : Nat} {n : Zw} (h : upB k n = true) : upV k n = rootN k n := if_pos h
/-- The larger exponent. -/
def topE (x y : Dw) : Int := if y.e < x.e then x.e else y.e
theorem topE_comm (x y : Dw) : topE y x = topE x y := by unfold topE; split <;> split <;> omega
theorem topE_le (x y : Dw) : x.e ≤ topE x y ∧ y.e ≤ topE x y ∧ (topE x y = x.e ∨ topE x y = y.e) := by unfold topE; split <;> omega
/-- The two numerators over the larger exponent. -/
def numA (x y : Dw) : Zw := rootN (topE x y - x.e).toNat x.n
def numB (x y : Dw) : Zw := rootN (topE x y - y.e).toNat y.n
def dAddB (x y : Dw) : Bool := decide (x.ok ∧ y.ok) && upB (topE x y - x.e).toNat x.n && upB (topE x y - y.e).toNat y.n && addB (numA x y) (numB x y) && newB ((numA x y).add (numB x y)) (topE x y)
def dAddV (x y : Dw) : Dw := if dAddB x y then newV ((numA x y).add (numB x y)) (topE x y) else .zero
def dMulB (x y : Dw) : Bool := decide (x.ok ∧ y.ok) && mulB x.n y.n && newB (x.n.mul y.n) (x.e + y.e)
def dMulV (x y : Dw) : Dw := if dMulB x y then newV (x.n.mul y.n) (x.e + y.e) else .zero
def Dw.neg (x : Dw) : Dw := ⟨x.n.neg, x.e⟩
def Dw.conj (x : Dw) : Dw := ⟨x.n.conj, x.e⟩
def dNegV (x : Dw) : Dw := if x.ok then x.neg else .zero
def dConjV (x : Dw) : Dw := if x.ok then x.conj else .zero
def oneD : Dw := ⟨⟨1, 0, 0, 0⟩, 0⟩
theorem dAddB_iff {x y : Dw} : dAddB x y = true ↔ x.ok ∧ y.ok ∧ upB (topE x y - x.e).toNat x.n = true ∧ upB (topE x y - y.e).toNat y.n = true ∧ addB (numA x y) (numB x y) = true ∧ newB ((numA x y).add (numB x y)) (topE x y) = true := by
  simp [dAddB, and_assoc]
theorem dMulB_iff {x y : Dw} : dMulB x y = true ↔ x.ok ∧ y.ok ∧ mulB x.n y.n = true ∧ newB (x.n.mul y.n) (x.e + y.e) = true := by
  simp [dMulB, and_assoc]
theorem dAddV_of {x y : Dw} (h : dAddB x y = true) : dAddV x y = newV ((numA x y).add (numB x y)) (topE x y) := if_pos h
theorem dAddV_no {x y : Dw} (h : dAddB x y = false) : dAddV x y = .zero := if_neg (by simp [h])
theorem dMulV_of {x y : Dw} (h : dMulB x y = true) : dMulV x y = newV (x.n.mul y.n) (x.e + y.e) := if_pos h
theorem dMulV_no {x y : Dw} (h : dMulB x y = false) : dMulV x y = .zero := if_neg (by simp [h])
theorem dAddV_ok {x y : Dw} (h : dAddB x y = true) : (dAddV x y).ok := by rw [dAddV_of h]; exact newV_ok (dAddB_iff.1 h).2.2.2.2.2
theorem dMulV_ok {x y : Dw} (h : dMulB x y = true) : (dMulV x y).ok := by rw [dMulV_of h]; exact newV_ok (dMulB_iff.1 h).2.2.2
/-- Commutativity. -/
theorem numA_comm (x y : Dw) : numA y x = numB x y := by unfold numA numB; rw [topE_comm]
theorem numB_comm (x y : Dw) : numB y x = numA x y := by unfold numA numB; rw [topE_comm]
theorem dAddB_comm (x y : Dw) : dAddB y x = dAddB x y := by
  rw [Bool.eq_iff_iff, dAddB_iff, dAddB_iff, numA_comm x y, numB_comm x y, topE_comm x y, add_comm' (numA x y) (numB x y), addB_comm (numA x y) (numB x y)]
  exact ⟨fun ⟨a, b, c, d, e⟩ => ⟨b, a, d, c, e⟩, fun ⟨a, b, c, d, e⟩ => ⟨b, a, d, c, e⟩⟩
theorem dAddV_comm (x y : Dw) : dAddV y x = dAddV x y := by
  unfold dAddV; rw [dAddB_comm x y, numA_comm x y, numB_comm x y, topE_comm x y, add_comm' (numA x y) (numB x y)]
theorem dMulB_comm (x y : Dw) : dMulB y x = dMulB x y := by
  rw [Bool.eq_iff_iff, dMulB_iff, dMulB_iff, mul_comm' x.n y.n, mulB_comm x.n y.n, Int.add_comm y.e x.e]
  exact ⟨fun ⟨a, b, c⟩ => ⟨b, a, c⟩, fun ⟨a, b, c⟩ => ⟨b, a, c⟩⟩
theorem dMulV_comm (x y : Dw) : dMulV y x = dMulV x y := by
  unfold dMulV; rw [dMulB_comm x y, mul_comm' x.n y.n, Int.add_comm y.e x.e]
/-- s has the value of x + y; p that of x * y. -/
def Adds (s x y : Dw) : Prop := rootN (x.e.toNat + y.e.toNat) s.n = rootN s.e.toNat ((rootN y.e.toNat x.n).add (rootN x.e.toNat y.n))
def Muls (p x y : Dw) : Prop := rootN (x.e.toNat + y.e.toNat) p.n = rootN p.e.toNat (x.n.mul y.n)
theorem adds_of {x y : Dw} (h : dAddB x y = true) : Adds (dAddV x y) x y := by
  obtain ⟨hx, hy, _, _, _, hn⟩ := dAddB_iff.1 h
  have hs := newV_same hn
  rw [← dAddV_of h] at hs
  unfold Same at hs
  have hx0 := hx.2.1
  have hy0 := hy.2.1
  have ht := topE_le x y
  generalize hT : topE x y = T at *
  have hA : numA x y = rootN (T.toNat - x.e.toNat) x.n := by unfold numA; rw [hT]; congr 1; omega
  have hB : numB x y = rootN (T.toNat - y.e.toNat) y.n := by unfold numB; rw [hT]; congr 1; omega
  rw [hA, hB] at hs
  unfold Adds
  apply rootN_inj (k := T.toNat)
  rw [rootN_comm, hs, rootN_comm (x.e.toNat + y.e.toNat), rootN_comm T.toNat]
  congr 1
  rw [rootN_addZ, rootN_addZ, ← rootN_add, ← rootN_add, ← rootN_add, ← rootN_add]
  congr 1 <;> congr 1 <;> omega
theorem muls_of {x y : Dw} (h : dMulB x y = true) : Muls (dMulV x y) x y := by
  obtain ⟨hx, hy, _, hn⟩ := dMulB_iff.1 h
  have hs := newV_same hn
  rw [← dMulV_of h] at hs
  unfold Same at hs
  have hx0 := hx.2.1
  have hy0 := hy.2.1
  unfold Muls
  rw [show x.e.toNat + y.e.toNat = (x.e + y.e).toNat by omega, hs]
theorem divB_neg (n : Zw) : divB n.neg = divB n := by
  rw [Bool.eq_iff_iff, divB_iff, divB_iff, neg_ok, root_neg]
  simp only [Zw.neg, Zw.even]
  refine and_congr_right fun _ => ?_
  omega
theorem divB_conj (n : Zw) : divB n.conj = divB n := by
  rw [Bool.eq_iff_iff, divB_iff, divB_iff, conj_ok, root_conj]
  simp only [Zw.conj, Zw.even]
  refine and_congr_right fun _ => ?_
  omega
theorem dneg_ok {x : Dw} : x.neg.ok ↔ x.ok := by unfold Dw.ok Dw.neg; simp only [neg_ok, divB_neg]
theorem dconj_ok {x : Dw} : x.conj.ok ↔ x.ok := by unfold Dw.ok Dw.conj; simp only [conj_ok, divB_conj]
theorem add_neg_cancel (a b : Zw) : (a.add b).add b.neg = a := by
  cases a; cases b; simp only [Zw.add, Zw.neg, Zw.mk.injEq]; omega
/-- The sum less y is x. -/
theorem dadd_back {x y : Dw} (h : dAddB x y = true) (k : dAddB (dAddV x y) (dNegV y) = true) : dAddV (dAddV x y) (dNegV y) = x := by
  have h1 := adds_of h
  have h2 := adds_of k
  have hx := (dAddB_iff.1 h).1
  have hy := (dAddB_iff.1 h).2.1
  refine unique (dAddV_ok k) hx ?_
  rw [show dNegV y = y.neg from if_pos hy] at *
  generalize dAddV (dAddV x y) y.neg = z at *
  generalize dAddV x y = s at *
  unfold Adds at *
  unfold Same
  apply rootN_inj (k := s.e.toNat + y.e.toNat)
  rw [rootN_comm]
  show rootN x.e.toNat (rootN (s.e.toNat + y.neg.e.toNat) z.n) = _
  rw [h2]
  show rootN x.e.toNat (rootN z.e.toNat ((rootN y.e.toNat s.n).add (rootN s.e.toNat y.n.neg))) = _
  rw [rootN_comm, rootN_comm (s.e.toNat + y.e.toNat)]
  congr 1
  rw [rootN_addZ, ← rootN_add, Nat.add_comm y.e.toNat, h1, rootN_addZ, ← rootN_add, ← rootN_add, ← rootN_add, rootN_neg, Nat.add_comm s.e.toNat x.e.toNat, add_neg_cancel, Nat.add_comm]
/-- The product spreads over the sum. -/
theorem dspreads {x y z : Dw} (h1 : dAddB x y = true) (h2 : dMulB x z = true) (h3 : dMulB y z = true) (h4 : dMulB (dAddV x y) z = true) (h5 : dAddB (dMulV x z) (dMulV y z) = true) :
    dMulV (dAddV x y) z = dAddV (dMulV x z) (dMulV y z) := by
  have a1 := adds_of h1
  have a2 := muls_of h2
  have a3 := muls_of h3
  have a4 := muls_of h4
  have a5 := adds_of h5
  refine unique (dMulV_ok h4) (dAddV_ok h5) ?_
  generalize dMulV (dAddV x y) z = r at *
  generalize dAddV (dMulV x z) (dMulV y z) = t at *
  generalize dAddV x y = s at *
  generalize dMulV x z = p at *
  generalize dMulV y z = q at *
  unfold Adds Muls at *
  unfold Same
  generalize x.e.toNat = ex at *
  generalize y.e.toNat = ey at *
  generalize z.e.toNat = ez at *
  generalize s.e.toNat = es at *
  generalize p.e.toNat = ep at *
  generalize q.e.toNat = eq' at *
  generalize r.e.toNat = er at *
  generalize t.e.toNat = et at *
  -- r = (x + y) z over er; t = p + q over et
  have b4 : rootN (ex + ey + (es + ez)) r.n = rootN (er + es) ((rootN ey (x.n.mul z.n)).add (rootN ex (y.n.mul z.n))) := by
    rw [Nat.add_comm (ex + ey), rootN_add, a4, rootN_comm, rootN_mul, a1, ← rootN_mul, ← rootN_add, Nat.add_comm es er]
    congr 1
    rw [add_mul', rootN_mul, rootN_mul]
  have c2 : ∀ j, rootN (j + (ex + ez)) p.n = rootN (j + ep) (x.n.mul z.n) := fun j => by
    rw [Nat.add_comm j, rootN_add, a2, ← rootN_add, Nat.add_comm]
  have c3 : ∀ j, rootN (j + (ey + ez)) q.n = rootN (j + eq') (y.n.mul z.n) := fun j => by
    rw [Nat.add_comm j, rootN_add, a3, ← rootN_add, Nat.add_comm]
  have b5 : rootN (ep + eq' + (ex + ez + (ey + ez))) t.n = rootN (et + (ez + ep + eq')) ((rootN ey (x.n.mul z.n)).add (rootN ex (y.n.mul z.n))) := by
    rw [rootN_add, a5, ← rootN_add, Nat.add_comm et, rootN_add, rootN_addZ, ← rootN_add, ← rootN_add,
      show eq' + (ex + ez + (ey + ez)) = (eq' + (ey + ez)) + (ex + ez) by omega, c2, show ep + (ex + ez + (ey + ez)) = (ep + (ex + ez)) + (ey + ez) by omega, c3,
      show eq' + (ey + ez) + ep = ey + (ez + ep + eq') by omega, show ep + (ex + ez) + eq' = ex + (ez + ep + eq') by omega, rootN_add ey, rootN_add ex, ← rootN_addZ, ← rootN_add, Nat.add_comm]
  apply rootN_inj (k := (ex + ey + (es + ez)) + (ez + ep + eq'))
  rw [← rootN_add, ← rootN_add, show et + (ex + ey + (es + ez) + (ez + ep + eq')) = (ex + ey + (es + ez)) + (et + (ez + ep + eq')) by omega, rootN_add, b4,
    show er + (ex + ey + (es + ez) + (ez + ep + eq')) = (ep + eq' + (ex + ez + (ey + ez))) + (er + es) by omega, rootN_add (ep + eq' + (ex + ez + (ey + ez))), b5, rootN_comm]
/-- Conjugation is a homomorphism; 1 is neutral. -/
theorem divV_conj {n : Zw} (h : divB n = true) : divV n.conj = (divV n).conj := by
  apply root_inj
  rw [(divV_root ((divB_conj n).trans h)).1, root_conj, (divV_root h).1]
theorem red_conj (k : Nat) (n : Zw) : red k n.conj = ((red k n).1.conj, (red k n).2) := by
  induction k generalizing n with
  | zero => rfl
  | succ k ih =>
    unfold red
    rw [divB_conj]
    cases h : divB n
    · rfl
    · simp only [if_true]; rw [divV_conj h]; exact ih _
theorem dconj_hom {x y : Dw} (h : dMulB x y = true) : dMulB (dConjV x) (dConjV y) = true ∧ dMulV (dConjV x) (dConjV y) = dConjV (dMulV x y) := by
  obtain ⟨hx, hy, hm, hn⟩ := dMulB_iff.1 h
  have hp := dMulV_ok h
  rw [show dConjV x = x.conj from if_pos hx, show dConjV y = y.conj from if_pos hy, show dConjV (dMulV x y) = (dMulV x y).conj from if_pos hp]
  obtain ⟨n1, n2, n3, n4⟩ := newB_iff.1 hn
  have hm2 : mulB x.n.conj y.n.conj = true := mulB_iff.2 ⟨conj_ok.2 hx.1, conj_ok.2 hy.1, by rw [conj_mul]; exact conj_ok.2 (mulB_iff.1 hm).2.2⟩
  have hn2 : newB (x.conj.n.mul y.conj.n) (x.conj.e + y.conj.e) = true := by
    show newB (x.n.conj.mul y.n.conj) (x.e + y.e) = true
    rw [conj_mul]
    exact newB_iff.2 ⟨conj_ok.2 n1, n2, n3, by rw [red_conj]; exact n4⟩
  have hb : dMulB x.conj y.conj = true := dMulB_iff.2 ⟨dconj_ok.2 hx, dconj_ok.2 hy, hm2, hn2⟩
  refine ⟨hb, ?_⟩
  rw [dMulV_of hb, dMulV_of h, newV_of hn2, newV_of hn]
  show Dw.mk (red (x.e + y.e).toNat (x.n.conj.mul y.n.conj)).1 _ = _
  rw [conj_mul, red_conj]
  show Dw.mk _ (((red (x.e + y.e).toNat (x.n.conj.mul y.n.conj)).2 : Nat) : Int) = _
  rw [conj_mul, red_conj]
  rfl
theorem mul_one' (n : Zw) : n.mul ⟨1, 0, 0, 0⟩ = n := by
  cases n; simp [Zw.mul]
theorem oneD_ok : oneD.ok := by decide
theorem dmul_one {x : Dw} (h : x.ok) : dMulB x oneD = true ∧ dMulV x oneD = x := by
  have e : x.n.mul oneD.n = x.n := mul_one' x.n
  have e2 : x.e + oneD.e = x.e := Int.add_zero _
  have hb : dMulB x oneD = true := dMulB_iff.2 ⟨h, oneD_ok, mulB_iff.2 ⟨h.1, by decide, by rw [e]; exact h.1⟩, by rw [e, e2]; exact (newV_self h).1⟩
  exact ⟨hb, by rw [dMulV_of hb, e, e2]; exact (newV_self h).2⟩
end Go.Proofs.Ytbohbhhgmglcdaa
