/- The laws' own helpers over slices of integers: size, copy, equality, mark, hold. -/
import Derived.Test.YtgknokaibgckkaaRwS
import Derived.Test.YtgknokaibgckkaaPeD
import Derived.Test.YtgknokaibgckkaaDsE
namespace Go.Proofs.Ytgknokaibgckkaa
open Go.RowKit
/-- A slice of integers that came in. -/
def IsIn (w : World) (B : Nat) (a0 : Option Addr) (l : List Int) : Prop :=
  l.length ≤ maxLen ∧ (∀ x ∈ l, -9223372036854775808 ≤ x ∧ x ≤ 9223372036854775807) ∧
  (0 < l.length → ∃ b off, a0 = some ⟨b, off, none⟩ ∧ b < B ∧ ∀ j x, l[j]? = some x → w.cell? ⟨b, off + j, none⟩ = some (.int .i64 x))
theorem IsIn.below {w w' : World} {B : Nat} {a0 : Option Addr} {l : List Int} (h : IsIn w B a0 l) (hb : Below B w w') : IsIn w' B a0 l :=
  ⟨h.1, h.2.1, fun h0 => by
    obtain ⟨b, off, e, hlt, hc⟩ := h.2.2 h0
    exact ⟨b, off, e, hlt, fun j x hx => (hb.cell (by exact hlt)).trans (hc j x hx)⟩⟩
theorem IsIn.mono {w : World} {B C : Nat} {a0 : Option Addr} {l : List Int} (h : IsIn w B a0 l) (hC : B ≤ C) : IsIn w C a0 l :=
  ⟨h.1, h.2.1, fun h0 => by obtain ⟨b, off, e, hlt, hc⟩ := h.2.2 h0; exact ⟨b, off, e, by omega, hc⟩⟩
theorem made_ints (n : Nat) : (madeCells #[.int .i64 0] (n * 1)).toList = intE.flat (List.replicate n 0) := by
  induction n with
  | zero => simp [madeCells, Enc.flat]
  | succ n ih =>
    rw [List.replicate_succ', intE.flat_app, ← ih, show (n + 1) * 1 = n * 1 + 1 by omega]
    simp only [madeCells, Array.toList_map, Array.toList_range, List.range_succ, List.map_append, List.map_cons, List.map_nil]
    congr 1
    simp [Nat.mod_one, Enc.flat, intE]
theorem halfI_at {l : List Int} {j : Nat} (h : j < l.length) : (l.take j ++ List.replicate (l.length - j) (0 : Int))[j]? = some 0 := by
  rw [List.getElem?_append_right (by simp; omega), List.getElem?_replicate, if_pos (by simp; omega)]
theorem halfI_set {l : List Int} {j : Nat} {x : Int} (hx : l[j]? = some x) : (l.take j ++ List.replicate (l.length - j) (0 : Int)).set j x = l.take (j + 1) ++ List.replicate (l.length - (j + 1)) (0 : Int) := by
  have h : j < l.length := by
    rcases Nat.lt_or_ge j l.length with h' | h'
    · exact h'
    · rw [List.getElem?_eq_none h'] at hx; cases hx
  rw [List.set_append_right _ _ (by simp; omega), List.take_add_one, hx]
  rw [show l.length - j = (l.length - (j + 1)) + 1 by omega, List.replicate_succ, show j - (l.take j).length = 0 by simp; omega]
  simp
/-- The marks of a row of n that begins at k. -/
def marksI (k n : Nat) : List Int := (List.range n).map fun (j : Nat) => ((k + j : Nat) : Int)
theorem marksI_len (k n : Nat) : (marksI k n).length = n := by simp [marksI]
theorem marksI_at {k n j : Nat} (h : j < n) : (marksI k n)[j]? = some ((k + j : Nat) : Int) := by
  rw [marksI, List.getElem?_map, List.getElem?_range h]; rfl
theorem markI_at (l : List Int) {k j : Nat} (_ : j < l.length) : (marksI k j ++ l.drop j)[j]? = l[j]? := by
  rw [List.getElem?_append_right (by rw [marksI_len]; exact Nat.le_refl _), marksI_len, List.getElem?_drop]
  simp
theorem markI_set (l : List Int) {k j : Nat} (h : j < l.length) : (marksI k j ++ l.drop j).set j ((k + j : Nat) : Int) = marksI k (j + 1) ++ l.drop (j + 1) := by
  rw [List.set_append_right _ _ (by rw [marksI_len]; exact Nat.le_refl _), marksI_len, Nat.sub_self]
  rw [show marksI k (j + 1) = marksI k j ++ [((k + j : Nat) : Int)] by simp [marksI, List.range_succ], List.append_assoc]
  congr 1
  rw [show l.drop j = l[j] :: l.drop (j + 1) from (List.getElem_cons_drop ..).symm]
  rfl
attribute [local irreducible] World.cell?
theorem eqI_take {a b : List Int} {j : Nat} {x y : Int} (hx : a[j]? = some x) (hy : b[j]? = some y) (h : a.take j = b.take j) (hxy : x = y) : a.take (j + 1) = b.take (j + 1) := by
  rw [List.take_add_one, List.take_add_one, h, hx, hy, hxy]
set_option maxRecDepth 100000 in
set_option maxHeartbeats 1600000 in
theorem eqIs (B C : Nat) (v u : Value) (a b : List Int) (w : World) (hv : intE.Sl w B v a) (hu : intE.Sl w C u b) (hm : a.length ≤ 1048576) (_ : b.length ≤ 1048576) :
    Calls Try.prog 27 #[v, u] w fun e w' => e = .returned (.bool (decide (a = b))) ∧ Below w.heap.size w w' := by
  obtain ⟨p, cap, rfl, hcap, hr⟩ := hv
  obtain ⟨p', cap', rfl, hcap', hr'⟩ := hu
  have Hr := Lib.hid hr
  have Hr' := Lib.hid hr'
  clear hr hr'
  by_cases hl : a.length = b.length
  · obtain ⟨T, hT⟩ : ∃ T, T = decide (a = b) := ⟨_, rfl⟩
    rw [← hT]
    have HT := Lib.hid hT
    clear hT
    rw [← hl] at Hr' hcap' ⊢
    have Hl := Lib.hid hl
    clear hl
    have hd2 : ((a.length : Int) != a.length) = false := by simp
    go_enter Try.func27, Try.ntmps27
    go_wp2_with fail
    go_loopg [5] a.length (fun k i wr => ∃ j : Nat, k = a.length - j ∧ j ≤ a.length ∧ i = .int .i64 j ∧ Hid (a.take j = b.take j) ∧ Hid (Below w.heap.size w wr))
    case atStart => exact ⟨0, rfl, Nat.zero_le _, rfl, Lib.hid rfl, Below.refl _ _⟩
    case round =>
      obtain ⟨j, rfl, hj, rfl, Heq, Hb⟩ := hrel
      by_cases hlt : j < a.length
      · obtain ⟨g, rfl, _, hrow⟩ := Hr.out (by omega)
        obtain ⟨g', rfl, _, hrow'⟩ := Hr'.out (by omega)
        obtain ⟨x, hx⟩ : ∃ x, a[j]? = some x := ⟨a[j], List.getElem?_eq_getElem hlt⟩
        obtain ⟨y, hy⟩ : ∃ y, b[j]? = some y := ⟨b[j]'(by have := Hl.out; omega), List.getElem?_eq_getElem _⟩
        have c0 := IRow.cell (hrow.below Hb.out hrow.lt) hx
        have c1 := IRow.cell (hrow'.below Hb.out hrow'.lt) hy
        have Hx := Lib.hid hx
        have Hy := Lib.hid hy
        clear hx hy hrow hrow'
        go_upto_region 6 with fail
        by_cases hxy : x = y
        · have hne : (x != y) = false := by simpa using hxy
          have Hxy := Lib.hid hxy
          clear hxy
          go_quiet (fail)
          go_wp2_with fail
          go_roundg (a.length - (j + 1))
          case measure => omega
          case rel => exact ⟨j + 1, rfl, by omega, by go_num, Lib.hid (eqI_take Hx.out Hy.out Heq.out Hxy.out), below_dn Hb.out _⟩
        · have hne : (x != y) = true := by simpa using hxy
          have hF : a ≠ b := fun h => hxy (by have h1 := Hx.out; rw [h, Hy.out] at h1; injection h1 with h1; exact h1.symm)
          obtain rfl : T = false := HT.out.trans (decide_eq_false hF)
          clear hF hxy
          go_quiet (fail)
          go_wp2_with fail
          go_ret
          exact ⟨rfl, below_dn Hb.out _⟩
      · obtain rfl : j = a.length := by omega
        have hE := Heq.out
        rw [List.take_length, List.take_of_length_le (by rw [← Hl.out]; exact Nat.le_refl _)] at hE
        obtain rfl : T = true := HT.out.trans (decide_eq_true hE)
        go_wp2_with fail
        go_ret
        exact ⟨rfl, Hb.out⟩
  · rw [decide_eq_false (fun h => hl (by rw [h]))]
    have hd2 : ((a.length : Int) != b.length) = true := by simp; omega
    go_enter Try.func27, Try.ntmps27
    go_wp2_with fail
    go_ret
    exact ⟨rfl, Below.refl _ _⟩
set_option maxRecDepth 100000 in
set_option maxHeartbeats 1600000 in
theorem markIs (B C k : Nat) (v : Value) (l : List Int) (w : World) (hv : intE.Sc w B C v l) (hm : l.length ≤ 1048576) (hk : k ≤ 1073741824) :
    Calls Try.prog 28 #[v, .int .i64 k] w fun e w' => e = .returned (.int .i64 ((k + l.length : Nat) : Int)) ∧ intE.Sc w' B C v (marksI k l.length) ∧ Mid B C w w' := by
  obtain ⟨a, cap, rfl, hcap, hr⟩ := hv
  have Hr := Lib.hid hr
  clear hr
  go_enter Try.func28, Try.ntmps28
  go_wp2_with fail
  go_loopw [1, 5] (fun m i wr => ∃ j : Nat, j ≤ l.length ∧ m = .int .i64 ((k + j : Nat) : Int) ∧ i = .int .i64 j ∧ Hid (∀ g, a = some ⟨g, 0, none⟩ → B ≤ g → g < C → intE.Row w g l → intE.Row wr g (marksI k j ++ l.drop j)) ∧ Hid (Mid B C w wr)) (fun _ i _ => l.length - (intOf i).toNat)
  case atStart => exact ⟨0, Nat.zero_le _, by simp, rfl, fun g _ _ _ h => by simpa [marksI] using h, Mid.refl _ _ _⟩
  case round =>
    obtain ⟨j, hj, rfl, rfl, Hrow, Hm⟩ := hrel
    by_cases hlt : j < l.length
    · obtain ⟨g, rfl, hB, hC, hrow0⟩ := Hr.out (by omega)
      have hrow := Hrow.out g rfl hB hC hrow0
      obtain ⟨x, hx⟩ : ∃ x, l[j]? = some x := ⟨l[j], List.getElem?_eq_getElem hlt⟩
      have c0 := IRow.cell hrow ((markI_at l hlt).trans hx)
      have f1 := fun o => hrow.free o
      have hgl := hrow.lt
      have hr2 := IRow.put hrow (j := j) (by simp [marksI_len]; omega) ((k + j : Nat) : Int)
      rw [markI_set l hlt] at hr2
      have Hr2 := Lib.hid hr2
      have Hm2 := Lib.hid (Hm.out.set hB hC (o := j) (.int .i64 ((k + j : Nat) : Int)))
      clear hr2 hrow Hrow Hm hrow0 hx
      go_wp2_with fail
      go_roundw
      case rel => exact ⟨j + 1, by omega, by go_num, by go_num, fun g' hg _ _ _ => by cases hg; exact Hr2.out, Hm2⟩
      case measure => simp [intOf]; omega
    · obtain rfl : j = l.length := by omega
      go_wp2_with fail
      go_ret
      refine ⟨rfl, ⟨_, _, by rw [marksI_len], by rw [marksI_len]; exact hcap, fun hl => ?_⟩, Hm.out⟩
      rw [marksI_len] at hl
      obtain ⟨g, e, hB, hC, hrow0⟩ := Hr.out hl
      exact ⟨g, e, hB, hC, by simpa using Hrow.out g e hB hC hrow0⟩
set_option maxRecDepth 100000 in
set_option maxHeartbeats 1600000 in
theorem heldIs (B k n : Nat) (v : Value) (w : World) (hv : intE.Sl w B v (marksI k n)) (hm : n ≤ 1048576) (hk : k ≤ 1073741824) :
    Calls Try.prog 29 #[v, .int .i64 k] w fun e w' => e = .returned (.int .i64 ((k + n : Nat) : Int)) ∧ w = w' := by
  obtain ⟨a, cap, rfl, hcap, hr⟩ := hv
  rw [marksI_len] at hcap hr ⊢
  have Hr := Lib.hid hr
  clear hr
  go_enter Try.func29, Try.ntmps29
  go_wp2_with fail
  go_loopw [1, 5] (fun m i wr => ∃ j : Nat, j ≤ n ∧ m = .int .i64 ((k + j : Nat) : Int) ∧ i = .int .i64 j ∧ w = wr) (fun _ i _ => n - (intOf i).toNat)
  case atStart => exact ⟨0, Nat.zero_le _, by simp, rfl, rfl⟩
  case round =>
    obtain ⟨j, hj, rfl, rfl, rfl⟩ := hrel
    by_cases hlt : j < n
    · obtain ⟨g, rfl, hB, hrow⟩ := Hr.out (by omega)
      have c0 := IRow.cell hrow (marksI_at hlt)
      have m0 : ((k + j : Nat) : Int) = (k : Int) + j := by simp
      rw [m0] at c0
      clear m0 hrow
      go_wp2_with fail
      go_roundw
      case rel => exact ⟨j + 1, by omega, by go_num, by go_num, trivial⟩
      case measure => simp [intOf]; omega
    · obtain rfl : j = n := by omega
      go_wp2_with fail
      go_ret
      exact ⟨rfl, rfl⟩
end Go.Proofs.Ytgknokaibgckkaa
