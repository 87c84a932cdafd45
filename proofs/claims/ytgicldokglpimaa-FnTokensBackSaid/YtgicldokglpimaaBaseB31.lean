/- BaseB31: several of our texts in one: Num Digits Row Conv MarkS. -/
import Derived.Lib.ItoaNum
import Derived.Lib.ItoaMem
import Derived.Lib.AtoiAllCases
import Derived.Test.YtgicldokglpimaaBaseB01
import Derived.Test.YtgicldokglpimaaRows
import Derived.WalkKit
import Derived.WalkSpells
import Derived.WalkLawsBesides
import Derived.Lib.Hide
import Derived.OneCell
import Derived.WalkSmall
import Derived.Deep.RegionHeld3
namespace Go.Proofs.Ytgicldokglpimaa
open Go.Lib
/-- The digits of u that a loop still has to write: none for 0. -/
def digs (u : Nat) : List UInt8 := if u = 0 then [] else decDigits u
theorem digs_zero : digs 0 = [] := rfl
theorem digs_pos {u : Nat} (h : u ≠ 0) : digs u = decDigits u := by unfold digs; rw [if_neg h]
theorem digs_step {u : Nat} (h : u ≠ 0) : digs u = digs (u / 10) ++ [UInt8.ofNat (48 + u % 10)] := by
  rw [digs_pos h, decDigits]
  by_cases h1 : u < 10
  · rw [dif_pos h1, show u / 10 = 0 by omega, digs_zero, show u % 10 = u by omega]; rfl
  · rw [dif_neg h1, digs_pos (by omega)]
theorem digs_next {u : Nat} (h : u ≠ 0) (l : List UInt8) : digs (u / 10) ++ (UInt8.ofNat (48 + u % 10) :: l) = digs u ++ l := by
  rw [digs_step h]; simp
theorem digs_length (u : Nat) : (digs u).length ≤ u := by
  induction u using Nat.strongRecOn with
  | _ u ih =>
    by_cases h : u = 0
    · subst h; simp [digs]
    · rw [digs_step h]; have := ih (u / 10) (by omega); simp; omega
theorem digs_length' (u : Nat) : (digs u).length ≤ u / 10 + 1 := by
  by_cases h : u = 0
  · subst h; simp [digs]
  · rw [digs_step h]; have := digs_length (u / 10); simp; omega
theorem neg_tmod (u : Nat) : (-(u : Int)).tmod 10 = -((u % 10 : Nat) : Int) := by
  rw [Int.neg_tmod, Int.tmod_eq_emod_of_nonneg (by omega)]; omega
theorem neg_tdiv (u : Nat) : (-(u : Int)).tdiv 10 = -((u / 10 : Nat) : Int) := by
  rw [Int.neg_tdiv, Int.tdiv_eq_ediv_of_nonneg (by omega)]; omega
end Go.Proofs.Ytgicldokglpimaa
namespace Go.Proofs.Ytgicldokglpimaa
open Go.Lib
/-- The number that digits spell. -/
def dval (l : List UInt8) : Nat := l.foldl (fun a c => 10 * a + (c.toNat - 48)) 0
/-- Every byte is a digit. -/
def Digs (l : List UInt8) : Prop := ∀ c ∈ l, 48 ≤ c.toNat ∧ c.toNat ≤ 57
theorem dval_nil : dval [] = 0 := rfl
theorem dval_snoc (l : List UInt8) (c : UInt8) : dval (l ++ [c]) = 10 * dval l + (c.toNat - 48) := by simp [dval]
theorem Digs_nil : Digs [] := by intro c h; cases h
theorem Digs_snoc {l : List UInt8} {c : UInt8} : Digs (l ++ [c]) ↔ Digs l ∧ 48 ≤ c.toNat ∧ c.toNat ≤ 57 := by
  unfold Digs
  constructor
  · intro h; exact ⟨fun d hd => h d (by simp [hd]), h c (by simp)⟩
  · rintro ⟨h, hc⟩ d hd
    rcases List.mem_append.1 hd with hd | hd
    · exact h d hd
    · simp at hd; subst hd; exact hc
theorem snoc_cases (l : List UInt8) : l = [] ∨ ∃ r c, l = r ++ [c] := by
  rcases List.eq_nil_or_concat l with h | ⟨r, c, h⟩
  · exact Or.inl h
  · exact Or.inr ⟨r, c, by simpa using h⟩
theorem dval_lt : ∀ (n : Nat) (l : List UInt8), l.length = n → Digs l → dval l < 10 ^ n
  | 0, l, hl, _ => by
    have : l = [] := List.length_eq_zero_iff.1 hl
    subst this; simp [dval]
  | n + 1, l, hl, hd => by
    rcases snoc_cases l with rfl | ⟨r, c, rfl⟩
    · simp at hl
    · have h2 := Digs_snoc.1 hd
      have h1 := dval_lt n r (by simpa using hl) h2.1
      rw [dval_snoc, Nat.pow_succ]; omega
theorem toNat_digit {k : Nat} (h : k < 10) : (UInt8.ofNat (48 + k)).toNat = 48 + k := by simp; omega
theorem decDigits_digs (u : Nat) : Digs (decDigits u) := by
  induction u using Nat.strongRecOn with
  | _ u ih =>
    rw [decDigits]
    by_cases h : u < 10
    · rw [dif_pos h]; intro c hc; simp only [List.mem_cons, List.not_mem_nil, or_false] at hc; subst hc; rw [toNat_digit h]; omega
    · rw [dif_neg h]; exact Digs_snoc.2 ⟨ih _ (by omega), by rw [toNat_digit (by omega)]; omega⟩
theorem dval_decDigits (u : Nat) : dval (decDigits u) = u := by
  induction u using Nat.strongRecOn with
  | _ u ih =>
    rw [decDigits]
    by_cases h : u < 10
    · rw [dif_pos h]; show 10 * 0 + ((UInt8.ofNat (48 + u)).toNat - 48) = u; rw [toNat_digit h]; omega
    · rw [dif_neg h, dval_snoc, ih _ (by omega), toNat_digit (by omega)]; omega
theorem decDigits_ne (u : Nat) : decDigits u ≠ [] := by
  rw [decDigits]; split <;> simp
theorem decDigits_len_le : ∀ (n u : Nat), u < 10 ^ (n + 1) → (decDigits u).length ≤ n + 1
  | 0, u, h => by rw [decDigits, dif_pos (by simpa using h)]; simp
  | n + 1, u, h => by
    rw [decDigits]
    by_cases hu : u < 10
    · rw [dif_pos hu]; simp
    · rw [dif_neg hu]
      have := decDigits_len_le n (u / 10) (by rw [Nat.pow_succ] at h; omega)
      simp; omega
theorem decDigits_head (u : Nat) : ∃ c r, decDigits u = c :: r ∧ 48 ≤ c.toNat ∧ c.toNat ≤ 57 := by
  cases h : decDigits u with
  | nil => exact absurd h (decDigits_ne u)
  | cons c r => exact ⟨c, r, rfl, decDigits_digs u c (by rw [h]; simp)⟩
theorem itoa_minus {n : Int} {r : List UInt8} (h : itoa n = 45 :: r) : n < 0 ∧ r = decDigits n.natAbs := by
  unfold itoa at h
  by_cases hn : n < 0
  · rw [if_pos hn] at h; simp at h; exact ⟨hn, h.symm⟩
  · rw [if_neg hn] at h
    obtain ⟨c, t, e, h1, _⟩ := decDigits_head n.toNat
    rw [e] at h
    injection h with h _
    subst h; simp at h1
theorem itoa_plain {n : Int} {c : UInt8} {r : List UInt8} (h : itoa n = c :: r) (hc : c ≠ 45) : 0 ≤ n ∧ c :: r = decDigits n.toNat := by
  unfold itoa at h
  by_cases hn : n < 0
  · rw [if_pos hn] at h; injection h with h _; exact absurd h.symm hc
  · rw [if_neg hn] at h; exact ⟨by omega, h.symm⟩
theorem itoa_ne (n : Int) : itoa n ≠ [] := by
  unfold itoa; split
  · simp
  · exact decDigits_ne _
/-- What the digits behind the sign spell, with the sign. -/
def sval (b : Bool) (t : List UInt8) : Int := if b then -(dval t : Int) else dval t
theorem sval_true (t : List UInt8) : sval true t = -(dval t : Int) := rfl
theorem sval_false (t : List UInt8) : sval false t = dval t := rfl
/-- A string with a sign b and the rest t. -/
def Cut (l : List UInt8) (b : Bool) (t : List UInt8) : Prop := (b = true ∧ l = 45 :: t) ∨ (b = false ∧ l = t ∧ t.head? ≠ some 45)
theorem itoa_cut {n : Int} {l t : List UInt8} {b : Bool} (hc : Cut l b t) (h : itoa n = l) : t ≠ [] ∧ Digs t ∧ n = sval b t ∧ t = decDigits n.natAbs := by
  rcases hc with ⟨rfl, rfl⟩ | ⟨rfl, rfl, h45⟩
  · obtain ⟨hn, rfl⟩ := itoa_minus h
    exact ⟨decDigits_ne _, decDigits_digs _, by rw [sval_true, dval_decDigits]; omega, rfl⟩
  · cases l with
    | nil => exact absurd h (itoa_ne n)
    | cons c r =>
      obtain ⟨hn, e⟩ := itoa_plain h (by intro e; subst e; simp at h45)
      rw [e]
      exact ⟨decDigits_ne _, decDigits_digs _, by rw [sval_false, dval_decDigits]; omega, by rw [show n.natAbs = n.toNat by omega]⟩
theorem itoa_cut_len {n : Int} {l t : List UInt8} {b : Bool} {k : Nat} (hc : Cut l b t) (h : itoa n = l) (hn : n.natAbs < 10 ^ (k + 1)) : 1 ≤ t.length ∧ t.length ≤ k + 1 := by
  obtain ⟨h1, _, _, h4⟩ := itoa_cut hc h
  have := decDigits_len_le k n.natAbs hn
  rw [← h4] at this
  exact ⟨by cases t with | nil => exact absurd rfl h1 | cons _ _ => simp, this⟩
theorem itoa_len (n : Int) (h0 : -9223372036854775808 ≤ n) (h1 : n ≤ 9223372036854775807) : (itoa n).length ≤ 21 := by
  unfold itoa
  split
  · have := decDigits_len_le 19 n.natAbs (by omega); simp; omega
  · have := decDigits_len_le 19 n.toNat (by omega); omega
/-! ### strconv.Atoi at a numeral -/
theorem parse_digs : ∀ (l : List UInt8) (acc : Nat), Digs l → acc * 10 ^ l.length + dval l < 18446744073709551616 → parseUint10 acc l = .ok (acc * 10 ^ l.length + dval l) := by
  intro l
  suffices H : ∀ (l : List UInt8) (acc : Nat), Digs l → l.foldl (fun a c => 10 * a + (c.toNat - 48)) acc < 18446744073709551616 → parseUint10 acc l = .ok (l.foldl (fun a c => 10 * a + (c.toNat - 48)) acc) by
    have F : ∀ (l : List UInt8) (acc : Nat), l.foldl (fun a c => 10 * a + (c.toNat - 48)) acc = acc * 10 ^ l.length + dval l := by
      intro l
      induction l with
      | nil => intro acc; simp [dval]
      | cons c l ih =>
        intro acc
        simp only [List.foldl_cons, List.length_cons, dval]
        rw [ih, ih (10 * 0 + (c.toNat - 48)), Nat.pow_succ]
        simp only [Nat.mul_zero, Nat.zero_add, Nat.add_mul]
        rw [Nat.mul_comm 10 acc, Nat.mul_assoc, Nat.mul_comm 10, ← Nat.add_assoc]
    intro acc hd hlt
    rw [← F] at hlt ⊢
    exact H l acc hd hlt
  intro l
  induction l with
  | nil => intro acc _ _; rfl
  | cons c l ih =>
    intro acc hd hlt
    have hc := hd c (by simp)
    have hl : Digs l := fun d h => hd d (by simp [h])
    have grow : ∀ (l : List UInt8) (a : Nat), a ≤ l.foldl (fun a c => 10 * a + (c.toNat - 48)) a := by
      intro l
      induction l with
      | nil => intro a; exact Nat.le_refl _
      | cons c l ih => intro a; exact Nat.le_trans (show a ≤ 10 * a + (c.toNat - 48) by omega) (ih _)
    simp only [List.foldl_cons] at hlt ⊢
    have hg := grow l (10 * acc + (c.toNat - 48))
    rw [parseUint10, if_pos hc, if_neg (by omega), if_neg (by omega), show acc * 10 + (c.toNat - 48) = 10 * acc + (c.toNat - 48) by omega]
    exact ih _ hl hlt
theorem atoiAll_itoa (n : Int) (h0 : -9223372036854775808 ≤ n) (h1 : n ≤ 9223372036854775807) : atoiAll (itoa n) = .ok n := by
  have key : ∀ u : Nat, u < 18446744073709551616 → parseMag (decDigits u) = .ok u := by
    intro u hu
    unfold parseMag
    rw [if_neg (decDigits_ne u), parse_digs _ 0 (decDigits_digs u) (by rw [dval_decDigits]; omega), dval_decDigits]
    simp
  by_cases hn : n < 0
  · have e : itoa n = 45 :: decDigits n.natAbs := by unfold itoa; rw [if_pos hn]
    rw [e, atoiAll_minus, key _ (by omega)]
    show (if 9223372036854775808 < n.natAbs then NumEnd.range else NumEnd.ok (-(n.natAbs : Int))) = _
    rw [if_neg (by omega)]; congr 1; omega
  · have e : itoa n = decDigits n.toNat := by unfold itoa; rw [if_neg hn]
    obtain ⟨c, r, ec, c1, c2⟩ := decDigits_head n.toNat
    have k := key n.toNat (by omega)
    rw [ec] at k
    rw [e, ec, atoiAll_plain c r (by omega) (by omega), k]
    show (if 9223372036854775808 ≤ n.toNat then NumEnd.range else NumEnd.ok (n.toNat : Int)) = _
    rw [if_neg (by omega)]; congr 1; omega
end Go.Proofs.Ytgicldokglpimaa
namespace Go.Proofs.Ytgicldokglpimaa
open Go.RowKit
/-- A row of n strings at the head of block b. -/
def StrRow (w : World) (b n : Nat) (f : Nat → ByteArray) : Prop := ∃ cs, w.heap[b]? = some (.cells cs 9 (0, 0)) ∧ ∀ j, j < n → cs[j]? = some (.string (f j))
theorem StrRow.cell {w : World} {b n : Nat} {f : Nat → ByteArray} (h : StrRow w b n f) {j : Nat} (hj : j < n) : w.cell? ⟨b, j, none⟩ = some (.string (f j)) := by
  obtain ⟨cs, h1, h2⟩ := h; exact cell_at h1 j _ (h2 j hj)
theorem StrRow.free {w : World} {b n : Nat} {f : Nat → ByteArray} (h : StrRow w b n f) (j : Nat) : w.frozen? ⟨b, j, none⟩ = false := by
  obtain ⟨cs, h1, h2⟩ := h; exact free_at h1 j
theorem StrRow.lt {w : World} {b n : Nat} {f : Nat → ByteArray} (h : StrRow w b n f) : b < w.heap.size := by
  obtain ⟨cs, h1, h2⟩ := h; exact lt_of_block h1
theorem StrRow.below {w w' : World} {b n B : Nat} {f : Nat → ByteArray} (h : StrRow w b n f) (hb : Below B w w') (hB : b < B) : StrRow w' b n f := by
  obtain ⟨cs, h1, h2⟩ := h; exact ⟨cs, by rw [hb.block b hB]; exact h1, h2⟩
theorem StrRow.own {w w' : World} {b n B : Nat} {f : Nat → ByteArray} (h : StrRow w b n f) (hb : Own B w w') (hB : b ≠ B) : StrRow w' b n f := by
  obtain ⟨cs, h1, h2⟩ := h; exact ⟨cs, by rw [hb.block b (lt_of_block h1) (by intro e; injection e with e; exact hB e)]; exact h1, h2⟩
theorem StrRow.set {w : World} {b n : Nat} {f : Nat → ByteArray} (h : StrRow w b n f) (j : Nat) (hj : j < n) (x : ByteArray) : StrRow (w.setCell ⟨b, j, none⟩ (.string x)) b n (fun t => if t = j then x else f t) := by
  obtain ⟨cs, h1, h2⟩ := h
  refine ⟨_, heap_set h1 j (.string x), fun t ht => ?_⟩
  have hsz : j < cs.size := by
    have := h2 j hj
    rcases Nat.lt_or_ge j cs.size with h' | h'
    · exact h'
    · rw [Array.getElem?_eq_none h'] at this; cases this
  rw [Array.getElem?_setIfInBounds]
  by_cases e : j = t
  · subst e; simp [hsz]
  · rw [if_neg e, h2 t ht]; simp [show ¬ t = j from fun h => e h.symm]
end Go.Proofs.Ytgicldokglpimaa
namespace Go.Proofs.Ytgicldokglpimaa
open Go.RowKit
theorem conv_one (x : UInt8) (v : Int) (hv : v = (x.toNat : Int)) (w : World) : (convert 22 9 (.slice (some ⟨w.heap.size, 0, none⟩) 1 1)).run Try.prog (w.alloc (.cells #[.int .u8 v] 5)) = .ok (.string ⟨#[x]⟩) (w.alloc (.cells #[.int .u8 v] 5)) := by
  rw [run_convert_bytes_string _ _ _ 5 _ _ _ Try.underlying22 Try.underlying5 Try.underlying9]
  rw [run_bytesToString _ _ _ _ [v] ?_]
  · subst hv
    simp [ByteArray.empty, ByteArray.push, ByteArray.emptyWithCapacity]
    rfl
  · have := run_loadCells_list (P := Try.prog) (w := w.alloc (.cells #[.int .u8 v] 5)) ⟨w.heap.size, 0, none⟩ [.int .u8 v] (fun j u hj => by
      match j, hj with
      | 0, hj => simp at hj; subst hj; simp [Addr.add])
    simpa using this
theorem app_one (x : UInt8) (l : List UInt8) : (ByteArray.mk #[x] ++ ByteArray.mk l.toArray) = ByteArray.mk (x :: l).toArray := ByteArray.mk_append_mk [x] l
end Go.Proofs.Ytgicldokglpimaa
namespace Go.Proofs.Ytgicldokglpimaa
open Go.RowKit
/-- The text of a mark. -/
def mt (k : Nat) : List UInt8 := 109 :: digs k
theorem mt_len (k : Nat) (h : k ≤ 4611686018427387904) : (mt k).length ≤ 4611686018427387904 := by
  have := digs_length' k; simp [mt]; omega
set_option maxRecDepth 100000 in
set_option maxHeartbeats 400000 in
theorem markText_any (k : Nat) (w : World) (h0 : 1 ≤ k) (h1 : k ≤ 4611686018427387904) :
    Calls Try.prog 42 #[.int .i64 k] w fun e w' => e = .returned (.string ⟨(mt k).toArray⟩) ∧ Below w.heap.size w w' := by
  have hD : (digs k).length + 1 ≤ 9223372036854775807 := by have := digs_length' k; omega
  go_enter Try.func42, Try.ntmps42
  go_wp2_with fail
  go_loopw [0, 3] (fun m out wr => ∃ (u : Nat) (l : List UInt8), m = .int .i64 u ∧ out = .string ⟨l.toArray⟩ ∧ u ≤ k ∧ digs u ++ l = digs k ∧ Below w.heap.size w wr) (fun m _ _ => (intOf m).toNat)
  case atStart => exact ⟨k, [], rfl, rfl, Nat.le_refl _, by simp, Below.refl _ _⟩
  case round =>
    obtain ⟨u, l, rfl, rfl, hu, hl, hb⟩ := hrel
    by_cases hu0 : u = 0
    · subst hu0
      have hll := congrArg List.length hl
      rw [digs_zero, List.nil_append] at hll hl
      have hsz : 1 + l.length ≤ 9223372036854775807 := by omega
      have Hl := Lib.hid hl
      clear hll hl hD
      go_wp2_with fail
      go_ret
      exact ⟨by rw [mt, ← Hl.out, ← app_one]; rfl, hb⟩
    · have hm : 0 < u := by omega
      have hs := congrArg List.length (digs_step hu0)
      have hll := congrArg List.length hl
      simp only [List.length_append, List.length_cons, List.length_nil] at hs hll
      have hsz : 1 + l.length ≤ 9223372036854775807 := by omega
      have Hl := Lib.hid hl
      obtain ⟨x, hx⟩ : ∃ x : UInt8, x = UInt8.ofNat (48 + u % 10) := ⟨_, rfl⟩
      have hc := conv_one x (48 + (u : Int) % 10) (by rw [hx]; simp; omega) wr
      have Hx := Lib.hid hx
      clear hs hll hl hD hx
      go_wp2_with fail
      go_roundw
      case rel => exact ⟨u / 10, x :: l, by go_num, by rw [app_one], by omega, by rw [Hx.out, digs_next hu0]; exact Hl.out, hb.alloc (by have := hb.size; omega) _⟩
      case measure => simp [intOf]; omega
/-- A string cell and the world behind which it lies. -/
def CellIn (W : World) (a : Addr) (s : ByteArray) (w : World) : Prop := w.cell? a = some (.string s) ∧ a.block < w.heap.size ∧ Below W.heap.size W w
theorem CellIn.drew {W w : World} {a : Addr} {s : ByteArray} (h : CellIn W a s w) : CellIn W a s w.drew := ⟨h.1, h.2.1, h.2.2.drew⟩
theorem CellIn.below {W w w' : World} {a : Addr} {s : ByteArray} (h : CellIn W a s w) (hb : Below w.heap.size w w') : CellIn W a s w' :=
  ⟨by rw [hb.cell h.2.1]; exact h.1, Nat.lt_of_lt_of_le h.2.1 hb.size, h.2.2.trans (hb.mono h.2.2.size)⟩
end Go.Proofs.Ytgicldokglpimaa
