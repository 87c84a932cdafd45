/- The laws' own helpers over slices of strings that came in: their size, a copy of them. -/
import Derived.Test.YtlbgkdkgembkkabRow
import Derived.Lib.AppendStr
namespace Go.Proofs.Ytlbgkdkgembkkab
open Go.RowKit
/-- A slice of n strings that came in. -/
def StrsIn (w : World) (B : Nat) (a0 : Option Addr) (n : Nat) (f : Nat → ByteArray) : Prop :=
  n ≤ maxLen ∧ (∀ j, j < n → (f j).size ≤ maxLen) ∧ (0 < n → ∃ b off, a0 = some ⟨b, off, none⟩ ∧ b < B ∧ ∀ j, j < n → w.cell? ⟨b, off + j, none⟩ = some (.string (f j)))
theorem StrsIn.below {w w' : World} {B : Nat} {a0 : Option Addr} {n : Nat} {f : Nat → ByteArray} (h : StrsIn w B a0 n f) (hb : Below B w w') : StrsIn w' B a0 n f :=
  ⟨h.1, h.2.1, fun h0 => by obtain ⟨b, off, e, hlt, hc⟩ := h.2.2 h0; exact ⟨b, off, e, hlt, fun j hj => by rw [hb.cell (by exact hlt)]; exact hc j hj⟩⟩
theorem strs_of {w : World} {x : Addr} {len : Nat} {ss : List ByteArray} (hm : len ≤ maxLen) (hz : len ≤ ss.length) (hc : ∀ i, i < ss.length → w.cell? (x.add i) = some (.string (ss.getD i ByteArray.empty))) (hw : ∀ s ∈ ss, s.size ≤ maxLen) : StrsIn w w.heap.size (some x) len (fun j => ss.getD j ByteArray.empty) := by
  refine ⟨hm, fun j hj => hw (ss.getD j ByteArray.empty) (by rw [List.getD_eq_getElem?_getD, List.getElem?_eq_getElem (by omega)]; exact List.getElem_mem _), fun h0 => ?_⟩
  obtain ⟨b, off, spot⟩ := x
  have hspot : spot = none := by simpa [Addr.add] using World.cell?_spot (hc 0 (by omega))
  subst hspot
  refine ⟨b, off, rfl, ?_, fun j hj => ?_⟩
  · have := World.block_lt_of_cell? _ _ (hc 0 (by omega))
    simpa [Addr.add] using this
  · have := hc j (by omega)
    by_cases hj0 : j = 0
    · subst hj0; simpa [Addr.add] using this
    · simpa [Addr.add, hj0] using this
theorem strs_none {w : World} {f : Nat → ByteArray} : StrsIn w w.heap.size none 0 f := ⟨Nat.zero_le _, fun j h => absurd h (by omega), fun h => absurd h (by omega)⟩
/-- The lengths of the first k strings together. -/
def totS (f : Nat → ByteArray) : Nat → Nat
  | 0 => 0
  | k + 1 => totS f k + (f k).size
theorem totS_le (f : Nat → ByteArray) {j k : Nat} (h : j ≤ k) : totS f j ≤ totS f k := by
  induction k with
  | zero => rw [show j = 0 by omega]; exact Nat.le_refl _
  | succ k ih =>
    by_cases e : j = k + 1
    · rw [e]; exact Nat.le_refl _
    · have := ih (by omega); simp only [totS]; omega
/-- How szStringS ends. -/
def SzOut (n t : Nat) (l : Int) (e : Ending) : Prop := (n + t ≤ l ∧ e = .returned (.int .i64 (l - n - t))) ∨ e = .returned (.int .i64 (-1))
set_option maxRecDepth 100000 in
set_option maxHeartbeats 400000 in
theorem szS_any (a0 : Option Addr) (n cap : Nat) (f : Nat → ByteArray) (l : Int) (B : Nat) (w : World) (hin : StrsIn w B a0 n f) (l0 : 0 ≤ l) (l1 : l ≤ 1048576) :
    Calls Try.prog 4 #[.slice a0 n cap, .int .i64 l] w fun e w' => SzOut n (totS f n) l e ∧ w = w' := by
  have hn := hin.1
  have Hin := Lib.hid hin
  unfold maxLen at hn
  clear hin
  by_cases hneg : l < n
  · go_enter Try.func4, Try.ntmps4
    go_wp2_with fail
    go_ret
    exact ⟨Or.inr rfl, rfl⟩
  · go_enter Try.func4, Try.ntmps4
    go_wp2_with fail
    go_loop [1, 5] (fun m i => ∃ (j : Nat) (r : Int), j ≤ n ∧ i = .int .i64 j ∧ m = .int .i64 r ∧ r = l - n - totS f j ∧ 0 ≤ r) (fun _ i => n - (intOf i).toNat)
    case atStart => exact ⟨0, _, Nat.zero_le _, rfl, rfl, by simp [totS], by omega⟩
    case round =>
      obtain ⟨j, r, hj, rfl, rfl, hr, hr0⟩ := hrel
      have hr1 : r ≤ 1048576 := by omega
      have Hr := Lib.hid hr
      clear hr
      by_cases hlt : j < n
      · obtain ⟨b, off, rfl, hbB, hcells⟩ := Hin.out.2.2 (by omega)
        have hc := hcells j hlt
        have hsz := Hin.out.2.1 j hlt
        unfold maxLen at hsz
        clear hcells
        by_cases hx : r < (f j).size
        · go_wp2_with fail
          go_ret
          exact ⟨Or.inr rfl, rfl⟩
        · go_wp2_with fail
          go_round
          case rel => exact ⟨j + 1, _, by omega, by go_num, rfl, by rw [Hr.out, totS]; omega, by omega⟩
          case measure => simp [intOf]; omega
      · obtain rfl : j = n := by omega
        go_wp2_with fail
        go_ret
        have hq := Hr.out
        exact ⟨Or.inl ⟨by omega, by rw [← hq]; rfl⟩, rfl⟩
theorem infoStr : (Try.prog.info? 9).map (fun i => (i.zero, i.size, i.bytes)) = some (some (.string ⟨#[]⟩), 1, 16) := by kernel_rfl
set_option maxRecDepth 100000 in
set_option maxHeartbeats 400000 in
theorem toS_any (a0 : Option Addr) (n cap : Nat) (f : Nat → ByteArray) (w : World) (hin : StrsIn w w.heap.size a0 n f) (hn2 : n ≤ 1048576) :
    Calls Try.prog 6 #[.slice a0 n cap] w fun e w' => e = .returned (.slice (some ⟨w.heap.size, 0, none⟩) n n) ∧ StrRow w' w.heap.size n f ∧ Below w.heap.size w w' := by
  obtain ⟨i0, hi, hz0, hz1, hz2⟩ := info_parts infoStr
  have Hin := Lib.hid hin
  clear hin
  go_enter Try.func6, Try.ntmps6
  go_wp2_with (first | (at_make; refine wpList_make_full _ rfl _ _ 22 rfl w.heap.size 9 i0 (.string ⟨#[]⟩) 1 Try.underlying22 hi hz0 hz1 .i64 .i64 n n n rfl rfl rfl rfl (by rw [hz2]; omega) (by unfold maxLen; omega) (Nat.le_refl _) ?_))
  intro w1 hown hgrow
  have hb1 : Below w.heap.size w w1 := (Below.refl _ _).grown hgrow (Nat.le_refl _) (fun k hk => by cases hk)
  have hrow1 : StrRow w1 w.heap.size n (fun j => if j < 0 then f j else ⟨#[]⟩) := by
    rcases hown.2 with ⟨h, _⟩ | ⟨g, cap, cur, hv, hb, hg, _, _, hs, ht⟩
    · cases h
    · obtain ⟨rfl, rfl⟩ : g = w.heap.size ∧ cap = n := by injection hv with hv _ hv2; injection hv with hv; injection hv with hv; exact ⟨hv.symm, hv2.symm⟩
      refine ⟨cur, hg, fun j hj => ?_⟩
      have e := congrArg (fun x : List Value => x[j]?) ht
      simp only [List.getElem?_take, Nat.mul_one, if_pos hj] at e
      rw [← Array.getElem?_toList, e, toList_madeCells_one, List.getElem?_replicate, if_pos hj]
      simp
  have Hb1 := Lib.hid hb1
  have Hrow1 := Lib.hid hrow1
  clear hown hgrow hb1 hrow1
  go_wp2_with fail
  go_loopw [4] (fun i wr => ∃ j : Nat, j ≤ n ∧ i = .int .i64 j ∧ StrRow wr w.heap.size n (fun t => if t < j then f t else ⟨#[]⟩) ∧ Below w.heap.size w wr) (fun i _ => n - (intOf i).toNat)
  case atStart => exact ⟨0, Nat.zero_le _, rfl, Hrow1.out, Hb1.out⟩
  case round =>
    obtain ⟨j, hj, rfl, hrow, hb⟩ := hrel
    have Hrow := Lib.hid hrow
    have Hb := Lib.hid hb
    clear hrow hb
    by_cases hlt : j < n
    · obtain ⟨b, off, rfl, hbB, hcells⟩ := (Hin.out.below Hb.out).2.2 (by omega)
      have hc := hcells j hlt
      have hc1 := Hrow.out.cell hlt
      have hf1 := Hrow.out.free j
      have hr2 := Hrow.out.set j hlt (f j)
      have Hr2 := Lib.hid hr2
      clear hcells hr2
      go_wp2_with fail
      go_roundw
      case rel =>
        refine ⟨j + 1, by omega, by go_num, ?_, Hb.out.setCell (Nat.le_refl _) _⟩
        obtain ⟨cs, h1, h2⟩ := Hr2.out
        refine ⟨cs, h1, fun t ht => ?_⟩
        rw [h2 t ht]
        by_cases e : t = j
        · subst e; simp
        · by_cases e2 : t < j
          · simp [e, e2, show t < j + 1 by omega]
          · simp [e, e2, show ¬ t < j + 1 by omega]
      case measure => simp [intOf]; omega
    · obtain rfl : j = n := by omega
      go_wp2_with fail
      go_ret
      refine ⟨rfl, ?_, Hb.out⟩
      obtain ⟨cs, h1, h2⟩ := Hrow.out
      exact ⟨cs, h1, fun t ht => by rw [h2 t ht]; simp [ht]⟩
end Go.Proofs.Ytlbgkdkgembkkab
