/- BaseB32: several of our texts in one: Fmt Read SpecParse EqS CopyS. -/
import Derived.Test.YtgicldokglpimaaBaseB31
import Derived.WalkKit
import Derived.WalkSpells
import Derived.WalkLawsBesides
import Derived.Lib.Hide
import Derived.Deep.QuietTactic
import Derived.BigQuiet
import Derived.Lib.AppendStr
namespace Go.Proofs.Ytgicldokglpimaa
open Go.RowKit
end Go.Proofs.Ytgicldokglpimaa
namespace Go.Proofs.Ytgicldokglpimaa
open Go.RowKit Go.Lib
/-- How a reader of numerals from -B to B ends. -/
def ReadOut (B : Int) (l : List UInt8) (e : Ending) : Prop := (∃ n, -B ≤ n ∧ n ≤ B ∧ itoa n = l ∧ e = .returned (.tuple #[.int .i64 n, .bool true])) ∨ ((∀ n, -B ≤ n → n ≤ B → itoa n ≠ l) ∧ e = .returned (.tuple #[.int .i64 0, .bool false]))
theorem take_next (s : ByteArray) (k : Nat) (h : k < s.size) : s.data.toList.take (k + 1) = s.data.toList.take k ++ [s[k]] := by
  rw [List.take_succ_eq_append_getElem (by simpa using h)]; rfl
theorem ne45 {c : UInt8} (h : some c ≠ some 45) : ((c.toNat : Int) == 45) = false := by
  simp
  intro x
  apply h
  have e : (45 : UInt8).toNat = 45 := rfl
  rw [show c = 45 from UInt8.toNat_inj.1 (by omega)]
theorem dval_small (l : List UInt8) (h : Digs l) (hl : l.length ≤ 12) : dval l < 1000000000000 := by
  have := dval_lt l.length l rfl h
  have h2 : 10 ^ l.length ≤ 10 ^ 12 := Nat.pow_le_pow_right (by omega) hl
  omega
end Go.Proofs.Ytgicldokglpimaa
namespace Go.Proofs.Ytgicldokglpimaa
open Go.RowKit Go.Lib
theorem itoa_inj {n m : Int} (h : itoa n = itoa m) (a0 : -999999999999 ≤ n) (a1 : n ≤ 999999999999) (b0 : -999999999999 ≤ m) (b1 : m ≤ 999999999999) : n = m := by
  have h1 := atoiAll_itoa n (by omega) (by omega)
  rw [h, atoiAll_itoa m (by omega) (by omega)] at h1
  injection h1 with h1
  exact h1.symm
theorem lim6 (l : List UInt8) (h : Digs l) (hl : l.length ≤ 6) : (dval l : Int) ≤ 999999 := by
  have := dval_lt l.length l rfl h
  have h2 : 10 ^ l.length ≤ 10 ^ 6 := Nat.pow_le_pow_right (by omega) hl
  omega
theorem lim12 (l : List UInt8) (h : Digs l) (hl : l.length ≤ 12) : (dval l : Int) ≤ 999999999999 := by
  have := dval_lt l.length l rfl h
  have h2 : 10 ^ l.length ≤ 10 ^ 12 := Nat.pow_le_pow_right (by omega) hl
  omega
end Go.Proofs.Ytgicldokglpimaa
namespace Go.Proofs.Ytgicldokglpimaa
open Go.RowKit
end Go.Proofs.Ytgicldokglpimaa
namespace Go.Proofs.Ytgicldokglpimaa
open Go.RowKit
/-- A slice of n strings that came in. -/
def StrsIn (w : World) (B : Nat) (a0 : Option Addr) (n : Nat) (f : Nat → ByteArray) : Prop :=
  n ≤ maxLen ∧ (∀ j, j < n → (f j).size ≤ maxLen) ∧ (0 < n → ∃ b off, a0 = some ⟨b, off, none⟩ ∧ b < B ∧ ∀ j, j < n → w.cell? ⟨b, off + j, none⟩ = some (.string (f j)))
theorem StrsIn.below {w w' : World} {B : Nat} {a0 : Option Addr} {n : Nat} {f : Nat → ByteArray} (h : StrsIn w B a0 n f) (hb : Below B w w') : StrsIn w' B a0 n f :=
  ⟨h.1, h.2.1, fun h0 => by obtain ⟨b, off, e, hlt, hc⟩ := h.2.2 h0; exact ⟨b, off, e, hlt, fun j hj => by rw [hb.cell (by exact hlt)]; exact hc j hj⟩⟩
theorem strs_of {w : World} {x : Addr} {len : Nat} {ss : List ByteArray} (hm : len ≤ maxLen) (hz : len ≤ ss.length) (hc : ∀ i, i < ss.length → w.cell? (x.add i) = some (.string (ss.getD i ByteArray.empty))) (hw : ∀ s ∈ ss, s.size ≤ maxLen) : StrsIn w w.heap.size (some x) len (fun j => ss.getD j ByteArray.empty) := by
  refine ⟨hm, fun j hj => hw (ss.getD j ByteArray.empty) (by rw [List.getD_eq_getElem?_getD, List.getElem?_eq_getElem (by omega)]; exact List.getElem_mem _), fun h0 => ?_⟩
  obtain ⟨b, off, spot⟩ := x
  have hspot : spot = none := by simpa [Addr.add] using World.cell?_spot (hc 0 (by omega))
  subst hspot
  refine ⟨b, off, rfl, ?_, fun j hj => ?_⟩
  · have := World.block_lt_of_cell? _ _ (hc 0 (by omega))
    simpa [Addr.add] using this
  · have := hc j (by omega)
    by_cases hj0 : j = 0
    · subst hj0; simpa [Addr.add] using this
    · simpa [Addr.add, hj0] using this
theorem strs_none {w : World} {f : Nat → ByteArray} : StrsIn w w.heap.size none 0 f := ⟨Nat.zero_le _, fun j h => absurd h (by omega), fun h => absurd h (by omega)⟩
/-- The lengths of the first k strings together. -/
def totS (f : Nat → ByteArray) : Nat → Nat
  | 0 => 0
  | k + 1 => totS f k + (f k).size
theorem totS_le (f : Nat → ByteArray) {j k : Nat} (h : j ≤ k) : totS f j ≤ totS f k := by
  induction k with
  | zero => rw [show j = 0 by omega]; exact Nat.le_refl _
  | succ k ih =>
    by_cases e : j = k + 1
    · rw [e]; exact Nat.le_refl _
    · have := ih (by omega); simp only [totS]; omega
/-- How szStringS ends. -/
def SzOut (n t : Nat) (l : Int) (e : Ending) : Prop := (n + t ≤ l ∧ e = .returned (.int .i64 (l - n - t))) ∨ e = .returned (.int .i64 (-1))
theorem infoStr : (Try.prog.info? 9).map (fun i => (i.zero, i.size, i.bytes)) = some (some (.string ⟨#[]⟩), 1, 16) := by kernel_rfl
end Go.Proofs.Ytgicldokglpimaa
