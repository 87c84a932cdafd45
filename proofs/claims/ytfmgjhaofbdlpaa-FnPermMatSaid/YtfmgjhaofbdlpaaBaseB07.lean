/- BaseB07: several of our texts in one: DsN IsO GtA GtB IsS. -/
import Derived.Test.YtfmgjhaofbdlpaaBaseB06
import Derived.Test.YtfmgjhaofbdlpaaDsM
import Derived.Test.YtfmgjhaofbdlpaaBaseB09
import Derived.Test.YtfmgjhaofbdlpaaIsL
import Derived.Deep.Slices
import Derived.OpenShut
import Derived.Test.YtfmgjhaofbdlpaaBaseB16
import Derived.Deep.QuietTactic
import Derived.BigQuiet
namespace Go.Proofs.Ytfmgjhaofbdlpaa
open Go.RowKit
theorem DsIn.mono {w : World} {B C : Nat} {a0 : Option Addr} {l : List Dw} (h : DsIn w B a0 l) (hC : B ≤ C) : DsIn w C a0 l :=
  ⟨h.1, h.2.1, fun h0 => by obtain ⟨b, off, e, hlt, hc⟩ := h.2.2 h0; exact ⟨b, off, e, by omega, hc⟩⟩
theorem DsIn.eb {w : World} {B : Nat} {a0 : Option Addr} {l : List Dw} (h : DsIn w B a0 l) : Eb l := h.2.1
theorem mark1 (B C : Nat) (v : Value) (l : List Dw) (w : World) (hv : DSc w B C v l) (hm : l.length ≤ 1048576) :
    Calls Try.prog 61 #[v, .int .i64 1] w fun e w' => e = .returned (.int .i64 (1 + (l.length : Int) * 5)) ∧ DSc w' B C v (marks 1 l.length) ∧ Mid B C w w' := by
  refine (markDs B C 1 v l w hv hm (by omega)).mono ?_
  rintro e w1 ⟨rfl, h⟩
  exact ⟨by simp, h⟩
theorem mark2 (B C m : Nat) (v : Value) (l : List Dw) (w : World) (hv : DSc w B C v l) (hm : l.length ≤ 1048576) (hm' : m ≤ 1048576) :
    Calls Try.prog 61 #[v, .int .i64 (1 + (m : Int) * 5)] w fun e w' => e = .returned (.int .i64 (1 + (m : Int) * 5 + (l.length : Int) * 5)) ∧ DSc w' B C v (marks (1 + m * 5) l.length) ∧ Mid B C w w' := by
  have h := markDs B C (1 + m * 5) v l w hv hm (by omega)
  rw [show ((1 + m * 5 : Nat) : Int) = 1 + (m : Int) * 5 by simp] at h
  refine h.mono ?_
  rintro e w1 ⟨rfl, h⟩
  exact ⟨by simp, h⟩
theorem held1 (B n : Nat) (v : Value) (w : World) (hv : DSl w B v (marks 1 n)) (hm : n ≤ 1048576) :
    Calls Try.prog 62 #[v, .int .i64 1] w fun e w' => e = .returned (.int .i64 (1 + (n : Int) * 5)) ∧ w = w' := by
  refine (heldDs B 1 n v w hv hm (by omega)).mono ?_
  rintro e w1 ⟨rfl, h⟩
  exact ⟨by simp, h⟩
theorem mid_low {B C : Nat} {a w w' : World} (h : Below a.heap.size a w) (m : Mid B C w w') (hB : a.heap.size ≤ B) : Below a.heap.size a w' := h.trans (m.1.mono hB)
theorem sequal_self (B C : Nat) (v u : Value) (a : List Dw) (w : World) (hv : DSl w B v a) (hu : DSl w C u a) (hm : a.length ≤ 1048576) :
    Calls Try.prog 50 #[v, u] w fun e w' => e = .returned (.bool true) ∧ Below w.heap.size w w' := by
  have h := sequalSt B C v u a a w hv hu hm hm
  rwa [decide_eq_true rfl] at h
end Go.Proofs.Ytfmgjhaofbdlpaa
namespace Go.Proofs.Ytfmgjhaofbdlpaa
open Go.ChangeShapes Go.WideShapes Go.ChangeAt Go.RowKit Go.Lib Go.Joins
set_option maxRecDepth 100000 in
set_option maxHeartbeats 400000 in
theorem open_is {H : Type} {enc : TypeId × Value → H} {w : World} {spare : Nat → Bool} {held : Bool} {r : Reach} {b0 : Nat} {v : Value} {d : DataW H} {p : List MemPlace}
    (hv : Value.okWide Try.prog w r b0 24 v) (h : DataW.Trod enc Try.prog w 0 spare held 24 v d p) :
    ∃ a0 cap l, v = .slice a0 (List.length l) cap ∧ IsIn w w.heap.size a0 l := by
  obtain ⟨a0, len, cap, rfl⟩ := okWide_slice Try.underlying24 hv
  obtain ⟨fuel, hf⟩ := h
  rcases open_ints Try.underlying24 Try.underlying3 (by kernel_rfl) hf with ⟨hcs, _⟩ | ⟨x, l, c, zs, hcs, _, hl, hm, hz, _, hcell, hwz⟩
  · simp [Value.cells] at hcs
    obtain ⟨rfl, rfl, rfl⟩ := hcs
    exact ⟨none, 0, [], rfl, Nat.zero_le _, fun y hy => absurd hy List.not_mem_nil, fun h => absurd h (by simp)⟩
  · simp [Value.cells] at hcs
    obtain ⟨rfl, rfl, rfl⟩ := hcs
    have hlz : len ≤ zs.length := by rw [hz]; split <;> omega
    have hlen : (zs.take len).length = len := by rw [List.length_take]; omega
    refine ⟨some x, cap, zs.take len, by rw [hlen], by rw [hlen]; omega, fun y hy => ?_, fun h0 => ?_⟩
    · have h1 := hwz y (List.mem_of_mem_take hy)
      exact ⟨(bounds_i64 h1).1, (bounds_i64 h1).2⟩
    · rw [hlen] at h0
      obtain ⟨b, off, rfl, hat⟩ := ints_at hcell (by omega)
      have hb := World.block_lt_of_cell? _ _ (hat 0 (by omega))
      refine ⟨b, off, rfl, hb, fun j y hy => ?_⟩
      rw [List.getElem?_take] at hy
      split at hy
      · rw [hat j (by omega), List.getD_eq_getElem?_getD, hy]; rfl
      · cases hy
open Go.RowKit
theorem markI1 (B C : Nat) (v : Value) (l : List Int) (w : World) (hv : intE.Sc w B C v l) (hm : l.length ≤ 1048576) :
    Calls Try.prog 33 #[v, .int .i64 1] w fun e w' => e = .returned (.int .i64 (1 + (l.length : Int))) ∧ intE.Sc w' B C v (marksI 1 l.length) ∧ Mid B C w w' := by
  refine (markIs B C 1 v l w hv hm (by omega)).mono ?_
  rintro e w1 ⟨rfl, h⟩
  exact ⟨by simp, h⟩
theorem markI2 (B C m : Nat) (v : Value) (l : List Int) (w : World) (hv : intE.Sc w B C v l) (hm : l.length ≤ 1048576) (hm' : m ≤ 1048576) :
    Calls Try.prog 33 #[v, .int .i64 (1 + (m : Int))] w fun e w' => e = .returned (.int .i64 (1 + (m : Int) + (l.length : Int))) ∧ intE.Sc w' B C v (marksI (1 + m) l.length) ∧ Mid B C w w' := by
  have h := markIs B C (1 + m) v l w hv hm (by omega)
  rw [show ((1 + m : Nat) : Int) = 1 + (m : Int) by simp] at h
  refine h.mono ?_
  rintro e w1 ⟨rfl, h⟩
  exact ⟨by simp, h⟩
theorem heldI1 (B n : Nat) (v : Value) (w : World) (hv : intE.Sl w B v (marksI 1 n)) (hm : n ≤ 1048576) :
    Calls Try.prog 34 #[v, .int .i64 1] w fun e w' => e = .returned (.int .i64 (1 + (n : Int))) ∧ w = w' := by
  refine (heldIs B 1 n v w hv hm (by omega)).mono ?_
  rintro e w1 ⟨rfl, h⟩
  exact ⟨by simp, h⟩
theorem eqI_self (B C : Nat) (v u : Value) (a : List Int) (w : World) (hv : intE.Sl w B v a) (hu : intE.Sl w C u a) (hm : a.length ≤ 1048576) :
    Calls Try.prog 31 #[v, u] w fun e w' => e = .returned (.bool true) ∧ Below w.heap.size w w' := by
  have h := eqIs B C v u a a w hv hu hm hm
  rwa [decide_eq_true rfl] at h
end Go.Proofs.Ytfmgjhaofbdlpaa
namespace Go.Proofs.Ytfmgjhaofbdlpaa
open Go.RowKit
/-- A gate: its kind and three qubits. -/
structure Gt where
  k : Int
  a : Int
  b : Int
  c : Int
/-- The number of qubits of a kind. -/
def ar (k : Int) : Nat := if 1 ≤ k ∧ k ≤ 8 then 1 else if 9 ≤ k ∧ k ≤ 11 then 2 else if k = 12 then 3 else 0
theorem ar_le (k : Int) : ar k ≤ 3 := by unfold ar; (repeat' split) <;> omega
/-- The qubits of a gate. -/
def gqs (g : Gt) : List Int := [g.a, g.b, g.c].take (ar g.k)
/-- Whether a gate's qubit j is as it must be: 0 where the gate has none, else from 0 to hi and none of the earlier ones. -/
def gtOk (g : Gt) (hi : Int) (j : Nat) : Bool :=
  if ar g.k ≤ j then decide ([g.a, g.b, g.c].getD j 0 = 0) else decide (0 ≤ [g.a, g.b, g.c].getD j 0 ∧ [g.a, g.b, g.c].getD j 0 ≤ hi) && !decide ([g.a, g.b, g.c].getD j 0 ∈ (gqs g).take j)
/-- IsValidGate. -/
def gtB (g : Gt) (n : Int) : Bool := (List.range 3).all (gtOk g (IntKind.i64.wrap (n - 1))) && (decide (0 < ar g.k) && decide (1 ≤ n ∧ n ≤ 4))
attribute [local irreducible] World.cell?
theorem gqs_len (g : Gt) : (gqs g).length = ar g.k := by unfold gqs; rw [List.length_take]; have := ar_le g.k; simp; omega
end Go.Proofs.Ytfmgjhaofbdlpaa
namespace Go.Proofs.Ytfmgjhaofbdlpaa
open Go.RowKit
theorem mem_take {l : List Int} {j : Nat} {x y : Int} (hx : l[j]? = some x) (h : y ∉ l.take j) (hne : x ≠ y) : y ∉ l.take (j + 1) := by
  rw [List.take_add_one, hx]
  simp
  exact ⟨h, fun e => hne e.symm⟩
attribute [local irreducible] World.cell?
set_option maxRecDepth 100000 in
set_option maxHeartbeats 1600000 in
theorem shas (B : Nat) (v : Value) (l : List Int) (y : Int) (w : World) (hv : intE.Sl w B v l) (hm : l.length ≤ 1048576) :
    Calls Try.prog 48 #[v, .int .i64 y] w fun e w' => e = .returned (.bool (decide (y ∈ l))) ∧ w' = w := by
  obtain ⟨a, cap, rfl, hcap, hr⟩ := hv
  have Hr := Lib.hid hr
  clear hr
  obtain ⟨T, hT⟩ : ∃ T, T = decide (y ∈ l) := ⟨_, rfl⟩
  rw [← hT]
  have HT := Lib.hid hT
  clear hT
  go_enter Try.func48, Try.ntmps48
  go_wp2_with fail
  go_loopg [5] l.length (fun n i wr => ∃ j : Nat, n = l.length - j ∧ j ≤ l.length ∧ i = .int .i64 j ∧ Hid (y ∉ l.take j) ∧ w = wr)
  case atStart => exact ⟨0, rfl, Nat.zero_le _, rfl, Lib.hid (by simp), rfl⟩
  case round =>
    obtain ⟨j, rfl, hj, rfl, Hno, rfl⟩ := hrel
    by_cases hlt : j < l.length
    · obtain ⟨g, rfl, _, hrow⟩ := Hr.out (by omega)
      obtain ⟨x, hx⟩ : ∃ x, l[j]? = some x := ⟨l[j], List.getElem?_eq_getElem hlt⟩
      have c0 := IRow.cell hrow hx
      have Hx := Lib.hid hx
      have Hm := Lib.hid (show x ∈ l from List.mem_of_getElem? hx)
      clear hx hrow
      by_cases hxy : x = y
      · subst hxy
        obtain rfl : T = true := HT.out.trans (decide_eq_true Hm.out)
        go_wp2_with fail
        go_ret
        exact ⟨rfl, rfl⟩
      · have hd : (x == y) = false := by simpa using hxy
        have Hn := Lib.hid (mem_take Hx.out Hno.out hxy)
        clear hxy
        go_wp2_with fail
        go_roundg (l.length - (j + 1))
        case measure => omega
        case rel => exact ⟨j + 1, rfl, by omega, by go_num, Hn, rfl⟩
    · obtain rfl : j = l.length := by omega
      have hno := Hno.out
      rw [List.take_length] at hno
      obtain rfl : T = false := HT.out.trans (decide_eq_false hno)
      go_wp2_with fail
      go_ret
      exact ⟨rfl, rfl⟩
theorem lin_q (x lo hi : Int) (b : Bool) (w : World) (h : decide (lo ≤ x ∧ x ≤ hi) = b) :
    Calls Try.prog 47 #[.int .i64 x, .int .i64 lo, .int .i64 hi] w fun e w' => e = .returned (.bool b) ∧ w' = w :=
  (lin_any x lo hi b w h).mono fun _ _ ⟨a, b⟩ => ⟨a, b.symm⟩
theorem range3_at (j : Nat) (h : j < 3) : (List.range 3)[j]? = some j := by rw [List.getElem?_range h]
end Go.Proofs.Ytfmgjhaofbdlpaa
namespace Go.Proofs.Ytfmgjhaofbdlpaa
open Go.RowKit
attribute [local irreducible] World.cell?
set_option maxRecDepth 100000 in
set_option maxHeartbeats 1600000 in
theorem sameIs (B C : Nat) (v u : Value) (a b : List Int) (w : World) (hv : intE.Sl w B v a) (hu : intE.Sl w C u b) (hm : a.length ≤ 1048576) (_ : b.length ≤ 1048576) :
    Calls Try.prog 15 #[v, u] w fun e w' => e = .returned (.bool (decide (a = b))) ∧ Below w.heap.size w w' := by
  obtain ⟨p, cap, rfl, hcap, hr⟩ := hv
  obtain ⟨p', cap', rfl, hcap', hr'⟩ := hu
  have Hr := Lib.hid hr
  have Hr' := Lib.hid hr'
  clear hr hr'
  by_cases hl : a.length = b.length
  · obtain ⟨T, hT⟩ : ∃ T, T = decide (a = b) := ⟨_, rfl⟩
    rw [← hT]
    have HT := Lib.hid hT
    clear hT
    rw [← hl] at Hr' hcap' ⊢
    have Hl := Lib.hid hl
    clear hl
    have hd2 : ((a.length : Int) != a.length) = false := by simp
    go_enter Try.func15, Try.ntmps15
    go_wp2_with fail
    go_loopg [5] a.length (fun k i wr => ∃ j : Nat, k = a.length - j ∧ j ≤ a.length ∧ i = .int .i64 j ∧ Hid (a.take j = b.take j) ∧ Hid (Below w.heap.size w wr))
    case atStart => exact ⟨0, rfl, Nat.zero_le _, rfl, Lib.hid rfl, Below.refl _ _⟩
    case round =>
      obtain ⟨j, rfl, hj, rfl, Heq, Hb⟩ := hrel
      by_cases hlt : j < a.length
      · obtain ⟨g, rfl, _, hrow⟩ := Hr.out (by omega)
        obtain ⟨g', rfl, _, hrow'⟩ := Hr'.out (by omega)
        obtain ⟨x, hx⟩ : ∃ x, a[j]? = some x := ⟨a[j], List.getElem?_eq_getElem hlt⟩
        obtain ⟨y, hy⟩ : ∃ y, b[j]? = some y := ⟨b[j]'(by have := Hl.out; omega), List.getElem?_eq_getElem _⟩
        have c0 := IRow.cell (hrow.below Hb.out hrow.lt) hx
        have c1 := IRow.cell (hrow'.below Hb.out hrow'.lt) hy
        have Hx := Lib.hid hx
        have Hy := Lib.hid hy
        clear hx hy hrow hrow'
        go_upto_region 6 with fail
        by_cases hxy : x = y
        · have hne : (x != y) = false := by simpa using hxy
          have Hxy := Lib.hid hxy
          clear hxy
          go_quiet (fail)
          go_wp2_with fail
          go_roundg (a.length - (j + 1))
          case measure => omega
          case rel => exact ⟨j + 1, rfl, by omega, by go_num, Lib.hid (eqI_take Hx.out Hy.out Heq.out Hxy.out), below_dn Hb.out _⟩
        · have hne : (x != y) = true := by simpa using hxy
          have hF : a ≠ b := fun h => hxy (by have h1 := Hx.out; rw [h, Hy.out] at h1; injection h1 with h1; exact h1.symm)
          obtain rfl : T = false := HT.out.trans (decide_eq_false hF)
          clear hF hxy
          go_quiet (fail)
          go_wp2_with fail
          go_ret
          exact ⟨rfl, below_dn Hb.out _⟩
      · obtain rfl : j = a.length := by omega
        have hE := Heq.out
        rw [List.take_length, List.take_of_length_le (by rw [← Hl.out]; exact Nat.le_refl _)] at hE
        obtain rfl : T = true := HT.out.trans (decide_eq_true hE)
        go_wp2_with fail
        go_ret
        exact ⟨rfl, Hb.out⟩
  · rw [decide_eq_false (fun h => hl (by rw [h]))]
    have hd2 : ((a.length : Int) != b.length) = true := by simp; omega
    go_enter Try.func15, Try.ntmps15
    go_wp2_with fail
    go_ret
    exact ⟨rfl, Below.refl _ _⟩
end Go.Proofs.Ytfmgjhaofbdlpaa
