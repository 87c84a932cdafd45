/- The laws' own helpers over rows of strings: compare, mark, hold. -/
import Derived.Test.YtlbgkdkgembkkaaDoorFmt
import Derived.Test.YtlbgkdkgembkkaaDoorCur
import Derived.Deep.RegionHeld3
import Derived.WalkSmall
namespace Go.Proofs.YtlbgkdkgembkkaaDoor
open Go.RowKit
/-- A row of n strings at the head of block b. -/
def StrRow (w : World) (b n : Nat) (f : Nat → ByteArray) : Prop := ∃ cs, w.heap[b]? = some (.cells cs 9 (0, 0)) ∧ ∀ j, j < n → cs[j]? = some (.string (f j))
theorem StrRow.cell {w : World} {b n : Nat} {f : Nat → ByteArray} (h : StrRow w b n f) {j : Nat} (hj : j < n) : w.cell? ⟨b, j, none⟩ = some (.string (f j)) := by
  obtain ⟨cs, h1, h2⟩ := h; exact cell_at h1 j _ (h2 j hj)
theorem StrRow.free {w : World} {b n : Nat} {f : Nat → ByteArray} (h : StrRow w b n f) (j : Nat) : w.frozen? ⟨b, j, none⟩ = false := by
  obtain ⟨cs, h1, h2⟩ := h; exact free_at h1 j
theorem StrRow.lt {w : World} {b n : Nat} {f : Nat → ByteArray} (h : StrRow w b n f) : b < w.heap.size := by
  obtain ⟨cs, h1, h2⟩ := h; exact lt_of_block h1
theorem StrRow.below {w w' : World} {b n B : Nat} {f : Nat → ByteArray} (h : StrRow w b n f) (hb : Below B w w') (hB : b < B) : StrRow w' b n f := by
  obtain ⟨cs, h1, h2⟩ := h; exact ⟨cs, by rw [hb.block b hB]; exact h1, h2⟩
theorem StrRow.own {w w' : World} {b n B : Nat} {f : Nat → ByteArray} (h : StrRow w b n f) (hb : Own B w w') (hB : b ≠ B) : StrRow w' b n f := by
  obtain ⟨cs, h1, h2⟩ := h; exact ⟨cs, by rw [hb.block b (lt_of_block h1) (by intro e; injection e with e; exact hB e)]; exact h1, h2⟩
theorem StrRow.set {w : World} {b n : Nat} {f : Nat → ByteArray} (h : StrRow w b n f) (j : Nat) (hj : j < n) (x : ByteArray) : StrRow (w.setCell ⟨b, j, none⟩ (.string x)) b n (fun t => if t = j then x else f t) := by
  obtain ⟨cs, h1, h2⟩ := h
  refine ⟨_, heap_set h1 j (.string x), fun t ht => ?_⟩
  have hsz : j < cs.size := by
    have := h2 j hj
    rcases Nat.lt_or_ge j cs.size with h' | h'
    · exact h'
    · rw [Array.getElem?_eq_none h'] at this; cases this
  rw [Array.getElem?_setIfInBounds]
  by_cases e : j = t
  · subst e; simp [hsz]
  · rw [if_neg e, h2 t ht]; simp [show ¬ t = j from fun h => e h.symm]
/-- The text of a mark. -/
def mt (k : Nat) : List UInt8 := 109 :: digs k
theorem mt_len (k : Nat) (h : k ≤ 4611686018427387904) : (mt k).length ≤ 4611686018427387904 := by
  have := digs_length' k; simp [mt]; omega
set_option maxRecDepth 100000 in
set_option maxHeartbeats 400000 in
theorem markText_any (k : Nat) (w : World) (h0 : 1 ≤ k) (h1 : k ≤ 4611686018427387904) :
    Calls Tryd.prog 37 #[.int .i64 k] w fun e w' => e = .returned (.string ⟨(mt k).toArray⟩) ∧ Below w.heap.size w w' := by
  have hD : (digs k).length + 1 ≤ 9223372036854775807 := by have := digs_length' k; omega
  go_enter Tryd.func37, Tryd.ntmps37
  go_wp2_with fail
  go_loopw [0, 3] (fun m out wr => ∃ (u : Nat) (l : List UInt8), m = .int .i64 u ∧ out = .string ⟨l.toArray⟩ ∧ u ≤ k ∧ digs u ++ l = digs k ∧ Below w.heap.size w wr) (fun m _ _ => (intOf m).toNat)
  case atStart => exact ⟨k, [], rfl, rfl, Nat.le_refl _, by simp, Below.refl _ _⟩
  case round =>
    obtain ⟨u, l, rfl, rfl, hu, hl, hb⟩ := hrel
    by_cases hu0 : u = 0
    · subst hu0
      have hll := congrArg List.length hl
      rw [digs_zero, List.nil_append] at hll hl
      have hsz : 1 + l.length ≤ 9223372036854775807 := by omega
      have Hl := Lib.hid hl
      clear hll hl hD
      go_wp2_with fail
      go_ret
      exact ⟨by rw [mt, ← Hl.out, ← app_one]; rfl, hb⟩
    · have hm : 0 < u := by omega
      have hs := congrArg List.length (digs_step hu0)
      have hll := congrArg List.length hl
      simp only [List.length_append, List.length_cons, List.length_nil] at hs hll
      have hsz : 1 + l.length ≤ 9223372036854775807 := by omega
      have Hl := Lib.hid hl
      obtain ⟨x, hx⟩ : ∃ x : UInt8, x = UInt8.ofNat (48 + u % 10) := ⟨_, rfl⟩
      have hc := conv_one x (48 + (u : Int) % 10) (by rw [hx]; simp; omega) wr
      have Hx := Lib.hid hx
      clear hs hll hl hD hx
      go_wp2_with fail
      go_roundw
      case rel => exact ⟨u / 10, x :: l, by go_num, by rw [app_one], by omega, by rw [Hx.out, digs_next hu0]; exact Hl.out, hb.alloc (by have := hb.size; omega) _⟩
      case measure => simp [intOf]; omega
set_option maxRecDepth 100000 in
set_option maxHeartbeats 400000 in
theorem markS_any (b n cap k : Nat) (f : Nat → ByteArray) (w : World) (hr : StrRow w b n f) (hn : n ≤ 1073741824) (h0 : 1 ≤ k) (h1 : k ≤ 1073741824) :
    Calls Tryd.prog 23 #[.slice (some ⟨b, 0, none⟩) n cap, .int .i64 k] w fun e w' => e = .returned (.int .i64 (k + n : Nat)) ∧ StrRow w' b n (fun j => ⟨(mt (k + j)).toArray⟩) ∧ Own b w w' := by
  have Hr := Lib.hid hr
  clear hr
  go_enter Tryd.func23, Tryd.ntmps23
  go_wp2_with fail
  go_loopw [1, 5] (fun m i wr => ∃ j : Nat, j ≤ n ∧ i = .int .i64 j ∧ m = .int .i64 (k + j : Nat) ∧ StrRow wr b n (fun t => if t < j then ⟨(mt (k + t)).toArray⟩ else f t) ∧ Own b w wr) (fun _ i _ => n - (intOf i).toNat)
  case atStart => exact ⟨0, Nat.zero_le _, rfl, rfl, by simpa using Hr.out, own_refl _ _⟩
  case round =>
    obtain ⟨j, hj, rfl, rfl, hrow, ho⟩ := hrel
    have Ho := Lib.hid ho
    have Hrow := Lib.hid hrow
    clear ho hrow
    by_cases hlt : j < n
    · go_wp2_with fail
      refine (markText_any (k + j) _ (by omega) (by omega)).mono ?_
      rintro e w1 ⟨rfl, hb1⟩
      have hr1 := Hrow.out.below hb1 Hrow.out.lt
      have hc1 := hr1.cell hlt
      have hf1 := hr1.free j
      have hr2 := hr1.set j hlt ⟨(mt (k + j)).toArray⟩
      have Hr2 := Lib.hid hr2
      have Hb1 := Lib.hid hb1
      clear hr2 hr1 hb1
      go_wp2_with fail
      go_roundw
      case rel =>
        refine ⟨j + 1, by omega, by go_num, by go_num, ?_, own_set (own_trans Ho.out (own_of_below Hb1.out)) _ _⟩
        have hq := Hr2.out
        have e : (fun t => if t = j then (⟨(mt (k + j)).toArray⟩ : ByteArray) else if t < j then ⟨(mt (k + t)).toArray⟩ else f t) = fun t => if t < j + 1 then ⟨(mt (k + t)).toArray⟩ else f t := by
          funext t
          by_cases e : t = j
          · subst e; simp
          · by_cases e2 : t < j
            · rw [if_neg e, if_pos e2, if_pos (by omega)]
            · rw [if_neg e, if_neg e2, if_neg (by omega)]
        rw [e] at hq
        exact hq
      case measure => simp [intOf]; omega
    · obtain rfl : j = n := by omega
      go_wp2_with fail
      go_ret
      refine ⟨rfl, ?_, Ho.out⟩
      obtain ⟨cs, h1, h2⟩ := Hrow.out
      exact ⟨cs, h1, fun t ht => by rw [h2 t ht]; simp [ht]⟩
/-- A string cell and the world behind which it lies. -/
def CellIn (W : World) (a : Addr) (s : ByteArray) (w : World) : Prop := w.cell? a = some (.string s) ∧ a.block < w.heap.size ∧ Below W.heap.size W w
theorem CellIn.drew {W w : World} {a : Addr} {s : ByteArray} (h : CellIn W a s w) : CellIn W a s w.drew := ⟨h.1, h.2.1, h.2.2.drew⟩
theorem CellIn.below {W w w' : World} {a : Addr} {s : ByteArray} (h : CellIn W a s w) (hb : Below w.heap.size w w') : CellIn W a s w' :=
  ⟨by rw [hb.cell h.2.1]; exact h.1, Nat.lt_of_lt_of_le h.2.1 hb.size, h.2.2.trans (hb.mono h.2.2.size)⟩
set_option maxRecDepth 100000 in
set_option maxHeartbeats 400000 in
theorem heldS_any (b n cap k : Nat) (w : World) (hr : StrRow w b n (fun j => ⟨(mt (k + j)).toArray⟩)) (hn : n ≤ 1073741824) (h0 : 1 ≤ k) (h1 : k ≤ 1073741824) :
    Calls Tryd.prog 24 #[.slice (some ⟨b, 0, none⟩) n cap, .int .i64 k] w fun e w' => e = .returned (.int .i64 (k + n : Nat)) ∧ Below w.heap.size w w' := by
  have Hr := Lib.hid hr
  clear hr
  go_enter Tryd.func24, Tryd.ntmps24
  go_wp2_with fail
  go_loopw [1, 5] (fun m i wr => ∃ j : Nat, j ≤ n ∧ i = .int .i64 j ∧ m = .int .i64 (k + j : Nat) ∧ Below w.heap.size w wr) (fun _ i _ => n - (intOf i).toNat)
  case atStart => exact ⟨0, Nat.zero_le _, rfl, rfl, Below.refl _ _⟩
  case round =>
    obtain ⟨j, hj, rfl, rfl, hb⟩ := hrel
    by_cases hlt : j < n
    · have hrow := Hr.out.below hb Hr.out.lt
      have hc1 := hrow.cell hlt
      have hlb := hrow.lt
      have hS : CellIn w ⟨b, j, none⟩ ⟨(mt (k + j)).toArray⟩ wr := ⟨hc1, hlb, hb⟩
      clear hrow hb hc1
      go_wp2_with fail
      go_region_held3 (fun w' => w'.cell? ⟨b, j, none⟩ = some (.string ⟨(mt (k + j)).toArray⟩) ∧ b < w'.heap.size ∧ Below w.heap.size w w') (first | exact hS.drew | (show CellIn w ⟨b, j, none⟩ ⟨(mt (k + j)).toArray⟩ _; refine CellIn.below ?_ hb1; first | assumption | exact ⟨by assumption, by assumption, by assumption⟩) | go_keep)
        (first | (go_at_call 37; refine (markText_any (k + j) _ (by omega) (by omega)).mono ?_; rintro e w1 ⟨rfl, hb1⟩))
      go_wp2_with fail
      go_roundw
      case rel => exact ⟨j + 1, by omega, by go_num, by go_num, (hS.drew.below hb1).2.2⟩
      case measure => simp [intOf]; omega
    · obtain rfl : j = n := by omega
      go_wp2_with fail
      go_ret
      exact ⟨rfl, hb⟩
set_option maxRecDepth 100000 in
set_option maxHeartbeats 400000 in
theorem eqS_any (a b n m ca cb : Nat) (f g : Nat → ByteArray) (w : World) (ha : StrRow w a n f) (hb : StrRow w b m g) (hn : n ≤ 1073741824) (hm : m ≤ 1073741824) (hnm : n = m) (he : ∀ j, j < n → f j = g j) :
    Calls Tryd.prog 22 #[.slice (some ⟨a, 0, none⟩) n ca, .slice (some ⟨b, 0, none⟩) m cb] w fun e w' => e = .returned (.bool true) ∧ Below w.heap.size w w' := by
  subst hnm
  have Ha := Lib.hid ha
  have Hb := Lib.hid hb
  have He := Lib.hid he
  clear ha hb he
  go_enter Tryd.func22, Tryd.ntmps22
  go_wp2_with fail
  go_loopw [5] (fun i wr => ∃ j : Nat, j ≤ n ∧ i = .int .i64 j ∧ Below w.heap.size w wr) (fun i _ => n - (intOf i).toNat)
  case atStart => exact ⟨0, Nat.zero_le _, rfl, Below.refl _ _⟩
  case round =>
    obtain ⟨j, hj, rfl, hbel⟩ := hrel
    by_cases hlt : j < n
    · have c1 := (Ha.out.below hbel Ha.out.lt).cell hlt
      have c2 := (Hb.out.below hbel Hb.out.lt).cell hlt
      rw [← He.out j hlt] at c2
      have Hbel := Lib.hid hbel
      clear hbel
      go_wp2_with fail
      go_quiet (fail)
      go_wp2_with fail
      go_roundw
      case rel => exact ⟨j + 1, by omega, by go_num, below_drewN Hbel.out _⟩
      case measure => simp [intOf]; omega
    · obtain rfl : j = n := by omega
      go_wp2_with fail
      go_ret
      exact ⟨rfl, hbel⟩
end Go.Proofs.YtlbgkdkgembkkaaDoor
