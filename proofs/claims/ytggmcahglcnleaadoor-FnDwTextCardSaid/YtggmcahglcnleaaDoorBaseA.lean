/- BaseA: several of our texts in one: Num Conv Fmt Digits Heap Row EqS SplitP MarkS CopyS JoinS Read SpecParse SplitS. -/
import Derived.Lib.ItoaNum
import Derived.Test.YtggmcahglcnleaaDoorRows
import Derived.WalkKit
import Derived.WalkSpells
import Derived.WalkLawsBesides
import Derived.Lib.Hide
import Derived.OneCell
import Derived.WalkSmall
import Derived.Lib.ItoaMem
import Derived.Lib.AtoiAllCases
import Derived.Deep.QuietTactic
import Derived.BigQuiet
import Derived.Lib.Split
import Derived.Lib.IndexBytes
import Derived.Lib.SplitLaws
import Derived.Deep.RegionHeld3
import Derived.Lib.AppendStr
import Derived.Lib.Join
namespace Go.Proofs.YtggmcahglcnleaaDoor
open Go.Lib
/-- The digits of u that a loop still has to write: none for 0. -/
def digs (u : Nat) : List UInt8 := if u = 0 then [] else decDigits u
theorem digs_zero : digs 0 = [] := rfl
theorem digs_pos {u : Nat} (h : u ≠ 0) : digs u = decDigits u := by unfold digs; rw [if_neg h]
theorem digs_step {u : Nat} (h : u ≠ 0) : digs u = digs (u / 10) ++ [UInt8.ofNat (48 + u % 10)] := by
  rw [digs_pos h, decDigits]
  by_cases h1 : u < 10
  · rw [dif_pos h1, show u / 10 = 0 by omega, digs_zero, show u % 10 = u by omega]; rfl
  · rw [dif_neg h1, digs_pos (by omega)]
theorem digs_next {u : Nat} (h : u ≠ 0) (l : List UInt8) : digs (u / 10) ++ (UInt8.ofNat (48 + u % 10) :: l) = digs u ++ l := by
  rw [digs_step h]; simp
theorem digs_length (u : Nat) : (digs u).length ≤ u := by
  induction u using Nat.strongRecOn with
  | _ u ih =>
    by_cases h : u = 0
    · subst h; simp [digs]
    · rw [digs_step h]; have := ih (u / 10) (by omega); simp; omega
theorem digs_length' (u : Nat) : (digs u).length ≤ u / 10 + 1 := by
  by_cases h : u = 0
  · subst h; simp [digs]
  · rw [digs_step h]; have := digs_length (u / 10); simp; omega
theorem neg_tmod (u : Nat) : (-(u : Int)).tmod 10 = -((u % 10 : Nat) : Int) := by
  rw [Int.neg_tmod, Int.tmod_eq_emod_of_nonneg (by omega)]; omega
theorem neg_tdiv (u : Nat) : (-(u : Int)).tdiv 10 = -((u / 10 : Nat) : Int) := by
  rw [Int.neg_tdiv, Int.tdiv_eq_ediv_of_nonneg (by omega)]; omega
end Go.Proofs.YtggmcahglcnleaaDoor
namespace Go.Proofs.YtggmcahglcnleaaDoor
open Go.RowKit
theorem conv_one (x : UInt8) (v : Int) (hv : v = (x.toNat : Int)) (w : World) : (convert 22 9 (.slice (some ⟨w.heap.size, 0, none⟩) 1 1)).run Tryd.prog (w.alloc (.cells #[.int .u8 v] 5)) = .ok (.string ⟨#[x]⟩) (w.alloc (.cells #[.int .u8 v] 5)) := by
  rw [run_convert_bytes_string _ _ _ 5 _ _ _ Tryd.underlying22 Tryd.underlying5 Tryd.underlying9]
  rw [run_bytesToString _ _ _ _ [v] ?_]
  · subst hv
    simp [ByteArray.empty, ByteArray.push, ByteArray.emptyWithCapacity]
    rfl
  · have := run_loadCells_list (P := Tryd.prog) (w := w.alloc (.cells #[.int .u8 v] 5)) ⟨w.heap.size, 0, none⟩ [.int .u8 v] (fun j u hj => by
      match j, hj with
      | 0, hj => simp at hj; subst hj; simp [Addr.add])
    simpa using this
theorem app_one (x : UInt8) (l : List UInt8) : (ByteArray.mk #[x] ++ ByteArray.mk l.toArray) = ByteArray.mk (x :: l).toArray := ByteArray.mk_append_mk [x] l
end Go.Proofs.YtggmcahglcnleaaDoor
namespace Go.Proofs.YtggmcahglcnleaaDoor
open Go.RowKit
set_option maxRecDepth 100000 in
set_option maxHeartbeats 400000 in
theorem fmt_pos (n : Int) (w : World) (h0 : 0 < n) (h1 : n ≤ 9223372036854775807) :
    Calls Tryd.prog 29 #[.int .i64 n] w fun e w' => e = .returned (.string ⟨(Lib.itoa n).toArray⟩) ∧ Below w.heap.size w w' := by
  have hz : (n == 0) = false := by simp; omega
  have hlt : decide (n < 0) = false := by simp; omega
  have Hi := Lib.hid (show digs n.toNat = Lib.itoa n by rw [digs_pos (by omega), Lib.itoa, if_neg (by omega)])
  have hD : (digs n.toNat).length ≤ 9223372036854775807 := by have := digs_length n.toNat; omega
  go_enter Tryd.func29, Tryd.ntmps29
  go_wp2
  go_loopw [0, 4] (fun m out wr => ∃ (u : Nat) (l : List UInt8), m = .int .i64 u ∧ out = .string ⟨l.toArray⟩ ∧ u ≤ n ∧ digs u ++ l = digs n.toNat ∧ Below w.heap.size w wr) (fun m _ _ => (intOf m).toNat)
  case atStart => exact ⟨n.toNat, [], by rw [show ((n.toNat : Nat) : Int) = n by omega], rfl, by omega, by simp, Below.refl _ _⟩
  case round =>
    obtain ⟨u, l, rfl, rfl, hu, hl, hb⟩ := hrel
    by_cases hu0 : u = 0
    · subst hu0
      go_wp2
      go_ret
      exact ⟨by rw [← Hi.out, ← hl, digs_zero]; rfl, hb⟩
    · have hm : ((u : Int) != 0) = true := by simp; omega
      have hs := congrArg List.length (digs_step hu0)
      have hll := congrArg List.length hl
      simp only [List.length_append, List.length_cons, List.length_nil] at hs hll
      have hsz : 1 + l.length ≤ 9223372036854775807 := by omega
      have Hl := Lib.hid hl
      obtain ⟨x, hx⟩ : ∃ x : UInt8, x = UInt8.ofNat (48 + u % 10) := ⟨_, rfl⟩
      have hc := conv_one x (48 + (u : Int) % 10) (by rw [hx]; simp; omega) wr
      have Hx := Lib.hid hx
      clear hs hll hl hD hx
      go_wp2
      go_roundw
      case rel => exact ⟨u / 10, x :: l, by go_num, by rw [app_one], by omega, by rw [Hx.out, digs_next hu0]; exact Hl.out, hb.alloc (by have := hb.size; omega) _⟩
      case measure => simp [intOf]; omega
set_option maxRecDepth 100000 in
set_option maxHeartbeats 400000 in
theorem fmt_neg (n : Int) (w : World) (h0 : n < 0) (h1 : -9223372036854775808 ≤ n) :
    Calls Tryd.prog 29 #[.int .i64 n] w fun e w' => e = .returned (.string ⟨(Lib.itoa n).toArray⟩) ∧ Below w.heap.size w w' := by
  have hz : (n == 0) = false := by simp; omega
  have hlt : decide (n < 0) = true := by simp; omega
  have Hi := Lib.hid (show 45 :: digs n.natAbs = Lib.itoa n by rw [digs_pos (by omega), Lib.itoa, if_pos (by omega)])
  have hD : (digs n.natAbs).length + 1 ≤ 9223372036854775807 := by have := digs_length' n.natAbs; omega
  go_enter Tryd.func29, Tryd.ntmps29
  go_wp2
  go_loopw [0, 4, 5] (fun m out _ wr => ∃ (u : Nat) (l : List UInt8), m = .int .i64 (-(u : Int)) ∧ out = .string ⟨l.toArray⟩ ∧ u ≤ -n ∧ digs u ++ l = digs n.natAbs ∧ Below w.heap.size w wr) (fun m _ _ _ => (intOf m).natAbs)
  case atStart => exact ⟨n.natAbs, [], by rw [show (-(n.natAbs : Nat) : Int) = n by omega], rfl, by omega, by simp, Below.refl _ _⟩
  case round =>
    obtain ⟨u, l, rfl, rfl, hu, hl, hb⟩ := hrel
    by_cases hu0 : u = 0
    · subst hu0
      have hll := congrArg List.length hl
      rw [digs_zero, List.nil_append] at hll hl
      have hsz : 1 + l.length ≤ 9223372036854775807 := by omega
      have Hl := Lib.hid hl
      clear hll hl hD
      go_wp2
      go_ret
      exact ⟨by rw [← Hi.out, ← Hl.out, ← app_one]; rfl, hb⟩
    · have hm : (-(u : Int) != 0) = true := by simp; omega
      have hs := congrArg List.length (digs_step hu0)
      have hll := congrArg List.length hl
      simp only [List.length_append, List.length_cons, List.length_nil] at hs hll
      have hsz : 1 + l.length ≤ 9223372036854775807 := by omega
      have Hl := Lib.hid hl
      obtain ⟨x, hx⟩ : ∃ x : UInt8, x = UInt8.ofNat (48 + u % 10) := ⟨_, rfl⟩
      have hc := conv_one x (48 + ((u % 10 : Nat) : Int)) (by rw [hx]; simp; omega) wr
      have Hx := Lib.hid hx
      have ht := neg_tmod u
      have hq := neg_tdiv u
      obtain ⟨r, hr⟩ : ∃ r, r = u % 10 := ⟨_, rfl⟩
      obtain ⟨q, hqq⟩ : ∃ q, q = u / 10 := ⟨_, rfl⟩
      rw [← hr] at ht hc
      rw [← hqq] at hq
      have hr10 : r < 10 := by omega
      have hqu : q < u := by omega
      have Hq := Lib.hid hqq
      have Hr := Lib.hid hr
      clear hs hll hl hD hx hr hqq
      by_cases hr0 : r = 0
      · subst hr0
        simp only [Int.natCast_zero, Int.neg_zero, Int.add_zero] at ht hc
        go_wp2
        go_roundw
        case rel => exact ⟨q, x :: l, by go_num, by rw [app_one], by omega, by rw [Hx.out, Hq.out, digs_next hu0]; exact Hl.out, hb.alloc (by have := hb.size; omega) _⟩
        case measure => simp [intOf]; omega
      · have hrn : decide (-(r : Int) < 0) = true := by simp; omega
        go_wp2
        go_roundw
        case rel => exact ⟨q, x :: l, by go_num, by rw [app_one], by omega, by rw [Hx.out, Hq.out, digs_next hu0]; exact Hl.out, hb.alloc (by have := hb.size; omega) _⟩
        case measure => simp [intOf]; omega
theorem fmt_zero (w : World) :
    Calls Tryd.prog 29 #[.int .i64 0] w fun e w' => e = .returned (.string ⟨(Lib.itoa 0).toArray⟩) ∧ Below w.heap.size w w' := by
  have H := Lib.hid (show Lib.itoa 0 = [48] by rw [Lib.itoa, if_neg (by omega), Lib.decDigits]; rfl)
  go_enter Tryd.func29, Tryd.ntmps29
  go_wp2
  go_ret
  exact ⟨by rw [H.out]; rfl, Below.refl _ _⟩
/-- spec.FormatInt at every int. -/
theorem fmt_any (n : Int) (w : World) (h0 : -9223372036854775808 ≤ n) (h1 : n ≤ 9223372036854775807) :
    Calls Tryd.prog 29 #[.int .i64 n] w fun e w' => e = .returned (.string ⟨(Lib.itoa n).toArray⟩) ∧ Below w.heap.size w w' := by
  rcases Int.lt_trichotomy n 0 with h | h | h
  · exact fmt_neg n w h h0
  · subst h; exact fmt_zero w
  · exact fmt_pos n w h h1
end Go.Proofs.YtggmcahglcnleaaDoor
namespace Go.Proofs.YtggmcahglcnleaaDoor
open Go.Lib
/-- The number that digits spell. -/
def dval (l : List UInt8) : Nat := l.foldl (fun a c => 10 * a + (c.toNat - 48)) 0
/-- Every byte is a digit. -/
def Digs (l : List UInt8) : Prop := ∀ c ∈ l, 48 ≤ c.toNat ∧ c.toNat ≤ 57
theorem dval_nil : dval [] = 0 := rfl
theorem dval_snoc (l : List UInt8) (c : UInt8) : dval (l ++ [c]) = 10 * dval l + (c.toNat - 48) := by simp [dval]
theorem Digs_nil : Digs [] := by intro c h; cases h
theorem Digs_snoc {l : List UInt8} {c : UInt8} : Digs (l ++ [c]) ↔ Digs l ∧ 48 ≤ c.toNat ∧ c.toNat ≤ 57 := by
  unfold Digs
  constructor
  · intro h; exact ⟨fun d hd => h d (by simp [hd]), h c (by simp)⟩
  · rintro ⟨h, hc⟩ d hd
    rcases List.mem_append.1 hd with hd | hd
    · exact h d hd
    · simp at hd; subst hd; exact hc
theorem snoc_cases (l : List UInt8) : l = [] ∨ ∃ r c, l = r ++ [c] := by
  rcases List.eq_nil_or_concat l with h | ⟨r, c, h⟩
  · exact Or.inl h
  · exact Or.inr ⟨r, c, by simpa using h⟩
theorem dval_lt : ∀ (n : Nat) (l : List UInt8), l.length = n → Digs l → dval l < 10 ^ n
  | 0, l, hl, _ => by
    have : l = [] := List.length_eq_zero_iff.1 hl
    subst this; simp [dval]
  | n + 1, l, hl, hd => by
    rcases snoc_cases l with rfl | ⟨r, c, rfl⟩
    · simp at hl
    · have h2 := Digs_snoc.1 hd
      have h1 := dval_lt n r (by simpa using hl) h2.1
      rw [dval_snoc, Nat.pow_succ]; omega
theorem toNat_digit {k : Nat} (h : k < 10) : (UInt8.ofNat (48 + k)).toNat = 48 + k := by simp; omega
theorem decDigits_digs (u : Nat) : Digs (decDigits u) := by
  induction u using Nat.strongRecOn with
  | _ u ih =>
    rw [decDigits]
    by_cases h : u < 10
    · rw [dif_pos h]; intro c hc; simp only [List.mem_cons, List.not_mem_nil, or_false] at hc; subst hc; rw [toNat_digit h]; omega
    · rw [dif_neg h]; exact Digs_snoc.2 ⟨ih _ (by omega), by rw [toNat_digit (by omega)]; omega⟩
theorem dval_decDigits (u : Nat) : dval (decDigits u) = u := by
  induction u using Nat.strongRecOn with
  | _ u ih =>
    rw [decDigits]
    by_cases h : u < 10
    · rw [dif_pos h]; show 10 * 0 + ((UInt8.ofNat (48 + u)).toNat - 48) = u; rw [toNat_digit h]; omega
    · rw [dif_neg h, dval_snoc, ih _ (by omega), toNat_digit (by omega)]; omega
theorem decDigits_ne (u : Nat) : decDigits u ≠ [] := by
  rw [decDigits]; split <;> simp
theorem decDigits_len_le : ∀ (n u : Nat), u < 10 ^ (n + 1) → (decDigits u).length ≤ n + 1
  | 0, u, h => by rw [decDigits, dif_pos (by simpa using h)]; simp
  | n + 1, u, h => by
    rw [decDigits]
    by_cases hu : u < 10
    · rw [dif_pos hu]; simp
    · rw [dif_neg hu]
      have := decDigits_len_le n (u / 10) (by rw [Nat.pow_succ] at h; omega)
      simp; omega
theorem decDigits_head (u : Nat) : ∃ c r, decDigits u = c :: r ∧ 48 ≤ c.toNat ∧ c.toNat ≤ 57 := by
  cases h : decDigits u with
  | nil => exact absurd h (decDigits_ne u)
  | cons c r => exact ⟨c, r, rfl, decDigits_digs u c (by rw [h]; simp)⟩
theorem itoa_minus {n : Int} {r : List UInt8} (h : itoa n = 45 :: r) : n < 0 ∧ r = decDigits n.natAbs := by
  unfold itoa at h
  by_cases hn : n < 0
  · rw [if_pos hn] at h; simp at h; exact ⟨hn, h.symm⟩
  · rw [if_neg hn] at h
    obtain ⟨c, t, e, h1, _⟩ := decDigits_head n.toNat
    rw [e] at h
    injection h with h _
    subst h; simp at h1
theorem itoa_plain {n : Int} {c : UInt8} {r : List UInt8} (h : itoa n = c :: r) (hc : c ≠ 45) : 0 ≤ n ∧ c :: r = decDigits n.toNat := by
  unfold itoa at h
  by_cases hn : n < 0
  · rw [if_pos hn] at h; injection h with h _; exact absurd h.symm hc
  · rw [if_neg hn] at h; exact ⟨by omega, h.symm⟩
theorem itoa_ne (n : Int) : itoa n ≠ [] := by
  unfold itoa; split
  · simp
  · exact decDigits_ne _
/-- What the digits behind the sign spell, with the sign. -/
def sval (b : Bool) (t : List UInt8) : Int := if b then -(dval t : Int) else dval t
theorem sval_true (t : List UInt8) : sval true t = -(dval t : Int) := rfl
theorem sval_false (t : List UInt8) : sval false t = dval t := rfl
/-- A string with a sign b and the rest t. -/
def Cut (l : List UInt8) (b : Bool) (t : List UInt8) : Prop := (b = true ∧ l = 45 :: t) ∨ (b = false ∧ l = t ∧ t.head? ≠ some 45)
theorem itoa_cut {n : Int} {l t : List UInt8} {b : Bool} (hc : Cut l b t) (h : itoa n = l) : t ≠ [] ∧ Digs t ∧ n = sval b t ∧ t = decDigits n.natAbs := by
  rcases hc with ⟨rfl, rfl⟩ | ⟨rfl, rfl, h45⟩
  · obtain ⟨hn, rfl⟩ := itoa_minus h
    exact ⟨decDigits_ne _, decDigits_digs _, by rw [sval_true, dval_decDigits]; omega, rfl⟩
  · cases l with
    | nil => exact absurd h (itoa_ne n)
    | cons c r =>
      obtain ⟨hn, e⟩ := itoa_plain h (by intro e; subst e; simp at h45)
      rw [e]
      exact ⟨decDigits_ne _, decDigits_digs _, by rw [sval_false, dval_decDigits]; omega, by rw [show n.natAbs = n.toNat by omega]⟩
theorem itoa_cut_len {n : Int} {l t : List UInt8} {b : Bool} {k : Nat} (hc : Cut l b t) (h : itoa n = l) (hn : n.natAbs < 10 ^ (k + 1)) : 1 ≤ t.length ∧ t.length ≤ k + 1 := by
  obtain ⟨h1, _, _, h4⟩ := itoa_cut hc h
  have := decDigits_len_le k n.natAbs hn
  rw [← h4] at this
  exact ⟨by cases t with | nil => exact absurd rfl h1 | cons _ _ => simp, this⟩
theorem itoa_len (n : Int) (h0 : -9223372036854775808 ≤ n) (h1 : n ≤ 9223372036854775807) : (itoa n).length ≤ 21 := by
  unfold itoa
  split
  · have := decDigits_len_le 19 n.natAbs (by omega); simp; omega
  · have := decDigits_len_le 19 n.toNat (by omega); omega
/-! ### strconv.Atoi at a numeral -/
theorem parse_digs : ∀ (l : List UInt8) (acc : Nat), Digs l → acc * 10 ^ l.length + dval l < 18446744073709551616 → parseUint10 acc l = .ok (acc * 10 ^ l.length + dval l) := by
  intro l
  suffices H : ∀ (l : List UInt8) (acc : Nat), Digs l → l.foldl (fun a c => 10 * a + (c.toNat - 48)) acc < 18446744073709551616 → parseUint10 acc l = .ok (l.foldl (fun a c => 10 * a + (c.toNat - 48)) acc) by
    have F : ∀ (l : List UInt8) (acc : Nat), l.foldl (fun a c => 10 * a + (c.toNat - 48)) acc = acc * 10 ^ l.length + dval l := by
      intro l
      induction l with
      | nil => intro acc; simp [dval]
      | cons c l ih =>
        intro acc
        simp only [List.foldl_cons, List.length_cons, dval]
        rw [ih, ih (10 * 0 + (c.toNat - 48)), Nat.pow_succ]
        simp only [Nat.mul_zero, Nat.zero_add, Nat.add_mul]
        rw [Nat.mul_comm 10 acc, Nat.mul_assoc, Nat.mul_comm 10, ← Nat.add_assoc]
    intro acc hd hlt
    rw [← F] at hlt ⊢
    exact H l acc hd hlt
  intro l
  induction l with
  | nil => intro acc _ _; rfl
  | cons c l ih =>
    intro acc hd hlt
    have hc := hd c (by simp)
    have hl : Digs l := fun d h => hd d (by simp [h])
    have grow : ∀ (l : List UInt8) (a : Nat), a ≤ l.foldl (fun a c => 10 * a + (c.toNat - 48)) a := by
      intro l
      induction l with
      | nil => intro a; exact Nat.le_refl _
      | cons c l ih => intro a; exact Nat.le_trans (show a ≤ 10 * a + (c.toNat - 48) by omega) (ih _)
    simp only [List.foldl_cons] at hlt ⊢
    have hg := grow l (10 * acc + (c.toNat - 48))
    rw [parseUint10, if_pos hc, if_neg (by omega), if_neg (by omega), show acc * 10 + (c.toNat - 48) = 10 * acc + (c.toNat - 48) by omega]
    exact ih _ hl hlt
theorem atoiAll_itoa (n : Int) (h0 : -9223372036854775808 ≤ n) (h1 : n ≤ 9223372036854775807) : atoiAll (itoa n) = .ok n := by
  have key : ∀ u : Nat, u < 18446744073709551616 → parseMag (decDigits u) = .ok u := by
    intro u hu
    unfold parseMag
    rw [if_neg (decDigits_ne u), parse_digs _ 0 (decDigits_digs u) (by rw [dval_decDigits]; omega), dval_decDigits]
    simp
  by_cases hn : n < 0
  · have e : itoa n = 45 :: decDigits n.natAbs := by unfold itoa; rw [if_pos hn]
    rw [e, atoiAll_minus, key _ (by omega)]
    show (if 9223372036854775808 < n.natAbs then NumEnd.range else NumEnd.ok (-(n.natAbs : Int))) = _
    rw [if_neg (by omega)]; congr 1; omega
  · have e : itoa n = decDigits n.toNat := by unfold itoa; rw [if_neg hn]
    obtain ⟨c, r, ec, c1, c2⟩ := decDigits_head n.toNat
    have k := key n.toNat (by omega)
    rw [ec] at k
    rw [e, ec, atoiAll_plain c r (by omega) (by omega), k]
    show (if 9223372036854775808 ≤ n.toNat then NumEnd.range else NumEnd.ok (n.toNat : Int)) = _
    rw [if_neg (by omega)]; congr 1; omega
end Go.Proofs.YtggmcahglcnleaaDoor
namespace Go.Proofs.YtggmcahglcnleaaDoor
open Go.RowKit
/-- A block of cells: what each holds, that it may be written, what the block is behind a store. -/
theorem cell_at {w : World} {b : Nat} {cs : Array Value} {t : TypeId} (h : w.heap[b]? = some (.cells cs t (0, 0))) (o : Nat) (v : Value) (hv : cs[o]? = some v) : w.cell? ⟨b, o, none⟩ = some v := by
  simp [World.cell?, h, hv]
theorem free_at {w : World} {b : Nat} {cs : Array Value} {t : TypeId} (h : w.heap[b]? = some (.cells cs t (0, 0))) (o : Nat) : w.frozen? ⟨b, o, none⟩ = false := by
  simp [World.frozen?, h]
theorem heap_set {w : World} {b : Nat} {cs : Array Value} {t : TypeId} (h : w.heap[b]? = some (.cells cs t (0, 0))) (o : Nat) (u : Value) : (w.setCell ⟨b, o, none⟩ u).heap[b]? = some (.cells (cs.setIfInBounds o u) t (0, 0)) := by
  have hlt := lt_of_block h
  have h' : w.heap[b] = .cells cs t (0, 0) := by simpa [Array.getElem?_eq_getElem hlt] using h
  show (w.heap.modify b _)[b]? = _
  rw [Array.getElem?_eq_getElem (by simpa using hlt), Array.getElem_modify_self, h']
  rfl
/-- Only block B may have been written; new blocks may lie behind. -/
abbrev Own (B : Nat) (w w' : World) : Prop := w.grownBy w' (some B)
theorem own_refl (B : Nat) (w : World) : Own B w w := ⟨rfl, rfl, rfl, Nat.le_refl _, fun _ _ _ => rfl⟩
theorem own_trans {B : Nat} {a b c : World} (h : Own B a b) (k : Own B b c) : Own B a c :=
  ⟨k.os.trans h.os, k.tape.trans h.tape, k.output.trans h.output, Nat.le_trans h.size k.size, fun i hi hn => (k.block i (Nat.lt_of_lt_of_le hi h.size) hn).trans (h.block i hi hn)⟩
theorem own_set {B : Nat} {a w : World} (h : Own B a w) (o : Nat) (u : Value) : Own B a (w.setCell ⟨B, o, none⟩ u) :=
  own_trans h ⟨rfl, rfl, rfl, by simp [World.setCell], fun k _ hn => Below.heap_setCell _ _ _ _ (by intro e; exact hn (by rw [e]))⟩
theorem own_drew {B : Nat} {a w : World} (h : Own B a w) (n : Nat) : Own B a (w.drewN n) := own_trans h ⟨rfl, rfl, rfl, Nat.le_refl _, fun _ _ _ => rfl⟩
theorem own_alloc {B : Nat} {a w : World} (h : Own B a w) (o : Obj) : Own B a (w.alloc o) := own_trans h ⟨rfl, rfl, rfl, by simp, fun k hk _ => Below.heap_alloc _ _ _ hk⟩
theorem own_below {B : Nat} {a b c : World} (h : Below B a b) (k : Own B b c) (hB : B ≤ b.heap.size) : Below B a c :=
  h.grown k hB (fun k e => by cases e; exact Nat.le_refl _)
theorem below_own {B C : Nat} {a b c : World} (h : Below C a b) (k : Own B b c) (hB : C ≤ B) (hC : C ≤ b.heap.size) : Below C a c :=
  h.grown k hC (fun q e => by cases e; exact hB)
theorem own_of_below {B : Nat} {w w' : World} (h : Below w.heap.size w w') : Own B w w' := ⟨h.os, h.tape, h.output, h.size, fun k hk _ => h.block k hk⟩
end Go.Proofs.YtggmcahglcnleaaDoor
namespace Go.Proofs.YtggmcahglcnleaaDoor
open Go.RowKit
/-- A row of n strings at the head of block b. -/
def StrRow (w : World) (b n : Nat) (f : Nat → ByteArray) : Prop := ∃ cs, w.heap[b]? = some (.cells cs 9 (0, 0)) ∧ ∀ j, j < n → cs[j]? = some (.string (f j))
theorem StrRow.cell {w : World} {b n : Nat} {f : Nat → ByteArray} (h : StrRow w b n f) {j : Nat} (hj : j < n) : w.cell? ⟨b, j, none⟩ = some (.string (f j)) := by
  obtain ⟨cs, h1, h2⟩ := h; exact cell_at h1 j _ (h2 j hj)
theorem StrRow.free {w : World} {b n : Nat} {f : Nat → ByteArray} (h : StrRow w b n f) (j : Nat) : w.frozen? ⟨b, j, none⟩ = false := by
  obtain ⟨cs, h1, h2⟩ := h; exact free_at h1 j
theorem StrRow.lt {w : World} {b n : Nat} {f : Nat → ByteArray} (h : StrRow w b n f) : b < w.heap.size := by
  obtain ⟨cs, h1, h2⟩ := h; exact lt_of_block h1
theorem StrRow.below {w w' : World} {b n B : Nat} {f : Nat → ByteArray} (h : StrRow w b n f) (hb : Below B w w') (hB : b < B) : StrRow w' b n f := by
  obtain ⟨cs, h1, h2⟩ := h; exact ⟨cs, by rw [hb.block b hB]; exact h1, h2⟩
theorem StrRow.own {w w' : World} {b n B : Nat} {f : Nat → ByteArray} (h : StrRow w b n f) (hb : Own B w w') (hB : b ≠ B) : StrRow w' b n f := by
  obtain ⟨cs, h1, h2⟩ := h; exact ⟨cs, by rw [hb.block b (lt_of_block h1) (by intro e; injection e with e; exact hB e)]; exact h1, h2⟩
theorem StrRow.set {w : World} {b n : Nat} {f : Nat → ByteArray} (h : StrRow w b n f) (j : Nat) (hj : j < n) (x : ByteArray) : StrRow (w.setCell ⟨b, j, none⟩ (.string x)) b n (fun t => if t = j then x else f t) := by
  obtain ⟨cs, h1, h2⟩ := h
  refine ⟨_, heap_set h1 j (.string x), fun t ht => ?_⟩
  have hsz : j < cs.size := by
    have := h2 j hj
    rcases Nat.lt_or_ge j cs.size with h' | h'
    · exact h'
    · rw [Array.getElem?_eq_none h'] at this; cases this
  rw [Array.getElem?_setIfInBounds]
  by_cases e : j = t
  · subst e; simp [hsz]
  · rw [if_neg e, h2 t ht]; simp [show ¬ t = j from fun h => e h.symm]
end Go.Proofs.YtggmcahglcnleaaDoor
namespace Go.Proofs.YtggmcahglcnleaaDoor
open Go.RowKit
end Go.Proofs.YtggmcahglcnleaaDoor
namespace Go.Proofs.YtggmcahglcnleaaDoor
open Go.Lib
/-- The pieces of s between the places of the byte c. -/
def pcs (c : UInt8) (s : ByteArray) : List ByteArray := splitB ⟨#[c]⟩ 0 (countB s ⟨#[c]⟩) s
theorem occ_one (s : List UInt8) (c : UInt8) (i : Nat) : occAt s [c] i = (s[i]? == some c) := by
  unfold occAt
  rw [← List.head?_drop]
  cases h : s.drop i with
  | nil => rfl
  | cons a r => simp [List.isPrefixOf]; exact Bool.beq_comm
theorem idx_hit (s : ByteArray) (c : UInt8) (i : Nat) (h : s.data.toList[i]? = some c) (hn : ∀ j, j < i → s.data.toList[j]? ≠ some c) : indexB s ⟨#[c]⟩ = i := by
  have hi : i < s.data.toList.length := by
    rcases Nat.lt_or_ge i s.data.toList.length with h' | h'
    · exact h'
    · rw [List.getElem?_eq_none h'] at h; cases h
  show index s.data.toList [c] = i
  refine index_first (Nat.le_of_lt hi) (by rw [occ_one, h]; simp) (fun j hj => ?_)
  rw [occ_one]; simpa using hn j hj
theorem idx_miss (s : ByteArray) (c : UInt8) (hn : ∀ j : Nat, s.data.toList[j]? ≠ some c) : indexB s ⟨#[c]⟩ = -1 := by
  show index s.data.toList [c] = -1
  refine index_none (fun j _ => ?_)
  rw [occ_one]; simpa using hn j
theorem pcs_hit (c : UInt8) (s : ByteArray) (i : Nat) (h : s.data.toList[i]? = some c) (hn : ∀ j, j < i → s.data.toList[j]? ≠ some c) : pcs c s = s.extract 0 i :: pcs c (s.extract (i + 1) s.size) := by
  have hx := idx_hit s c i h hn
  unfold pcs
  rw [countB_hit s ⟨#[c]⟩ i (Nat.le_refl 1) hx, Nat.add_comm 1, splitB_hit _ _ _ _ i hx]
  rfl
theorem pcs_miss (c : UInt8) (s : ByteArray) (hn : ∀ j : Nat, s.data.toList[j]? ≠ some c) : pcs c s = [s] := by
  unfold pcs
  rw [splitB_miss _ _ _ _ (idx_miss s c hn)]
theorem ext_get (s : ByteArray) (f j : Nat) : (s.extract f s.size).data.toList[j]? = s.data.toList[f + j]? := by
  rw [extract_to_end, List.getElem?_drop]
/-- One step of the cutting loop: the byte at i is c. -/
theorem pcs_step (c : UInt8) (s : ByteArray) (f i : Nat) (hf : f ≤ i) (hi : i < s.size) (h : s.data.toList[i]? = some c) (hn : ∀ j, f ≤ j → j < i → s.data.toList[j]? ≠ some c) :
    pcs c (s.extract f s.size) = s.extract f i :: pcs c (s.extract (i + 1) s.size) := by
  have e := pcs_hit c (s.extract f s.size) (i - f) (by rw [ext_get, show f + (i - f) = i by omega]; exact h) (fun j hj => by rw [ext_get]; exact hn _ (by omega) (by omega))
  rw [e]
  have e1 : (s.extract f s.size).extract 0 (i - f) = s.extract f i := by
    rw [ByteArray.extract_extract]; congr 1; omega
  have e2 : (s.extract f s.size).extract (i - f + 1) (s.extract f s.size).size = s.extract (i + 1) s.size := by
    rw [ByteArray.extract_extract, ByteArray.size_extract]; congr 1 <;> omega
  rw [e1, e2]
theorem pcs_last (c : UInt8) (s : ByteArray) (f : Nat) (hn : ∀ j, f ≤ j → j < s.size → s.data.toList[j]? ≠ some c) : pcs c (s.extract f s.size) = [s.extract f s.size] := by
  refine pcs_miss c _ (fun j => ?_)
  rw [ext_get]
  rcases Nat.lt_or_ge (f + j) s.size with h | h
  · exact hn _ (by omega) h
  · rw [List.getElem?_eq_none (by simpa using h)]; simp
theorem pcs_whole (c : UInt8) (s : ByteArray) : pcs c (s.extract 0 s.size) = pcs c s := by
  congr 1
  apply ByteArray.ext; simp
theorem pcs_len (c : UInt8) (s : ByteArray) : (pcs c s).length = countB s ⟨#[c]⟩ + 1 := splitB_all ⟨#[c]⟩ (Nat.le_refl 1) 0 _ s rfl
theorem pcs_len_le (c : UInt8) (s : ByteArray) : (pcs c s).length ≤ s.size + 1 := by
  rw [pcs_len]; have := countB_le ⟨#[c]⟩ (Nat.le_refl 1) s.size s (Nat.le_refl _); omega
end Go.Proofs.YtggmcahglcnleaaDoor
namespace Go.Proofs.YtggmcahglcnleaaDoor
open Go.RowKit
/-- The text of a mark. -/
def mt (k : Nat) : List UInt8 := 109 :: digs k
theorem mt_len (k : Nat) (h : k ≤ 4611686018427387904) : (mt k).length ≤ 4611686018427387904 := by
  have := digs_length' k; simp [mt]; omega
/-- A string cell and the world behind which it lies. -/
def CellIn (W : World) (a : Addr) (s : ByteArray) (w : World) : Prop := w.cell? a = some (.string s) ∧ a.block < w.heap.size ∧ Below W.heap.size W w
theorem CellIn.drew {W w : World} {a : Addr} {s : ByteArray} (h : CellIn W a s w) : CellIn W a s w.drew := ⟨h.1, h.2.1, h.2.2.drew⟩
theorem CellIn.below {W w w' : World} {a : Addr} {s : ByteArray} (h : CellIn W a s w) (hb : Below w.heap.size w w') : CellIn W a s w' :=
  ⟨by rw [hb.cell h.2.1]; exact h.1, Nat.lt_of_lt_of_le h.2.1 hb.size, h.2.2.trans (hb.mono h.2.2.size)⟩
end Go.Proofs.YtggmcahglcnleaaDoor
namespace Go.Proofs.YtggmcahglcnleaaDoor
open Go.RowKit
/-- A slice of n strings that came in. -/
def StrsIn (w : World) (B : Nat) (a0 : Option Addr) (n : Nat) (f : Nat → ByteArray) : Prop :=
  n ≤ maxLen ∧ (∀ j, j < n → (f j).size ≤ maxLen) ∧ (0 < n → ∃ b off, a0 = some ⟨b, off, none⟩ ∧ b < B ∧ ∀ j, j < n → w.cell? ⟨b, off + j, none⟩ = some (.string (f j)))
theorem StrsIn.below {w w' : World} {B : Nat} {a0 : Option Addr} {n : Nat} {f : Nat → ByteArray} (h : StrsIn w B a0 n f) (hb : Below B w w') : StrsIn w' B a0 n f :=
  ⟨h.1, h.2.1, fun h0 => by obtain ⟨b, off, e, hlt, hc⟩ := h.2.2 h0; exact ⟨b, off, e, hlt, fun j hj => by rw [hb.cell (by exact hlt)]; exact hc j hj⟩⟩
theorem strs_of {w : World} {x : Addr} {len : Nat} {ss : List ByteArray} (hm : len ≤ maxLen) (hz : len ≤ ss.length) (hc : ∀ i, i < ss.length → w.cell? (x.add i) = some (.string (ss.getD i ByteArray.empty))) (hw : ∀ s ∈ ss, s.size ≤ maxLen) : StrsIn w w.heap.size (some x) len (fun j => ss.getD j ByteArray.empty) := by
  refine ⟨hm, fun j hj => hw (ss.getD j ByteArray.empty) (by rw [List.getD_eq_getElem?_getD, List.getElem?_eq_getElem (by omega)]; exact List.getElem_mem _), fun h0 => ?_⟩
  obtain ⟨b, off, spot⟩ := x
  have hspot : spot = none := by simpa [Addr.add] using World.cell?_spot (hc 0 (by omega))
  subst hspot
  refine ⟨b, off, rfl, ?_, fun j hj => ?_⟩
  · have := World.block_lt_of_cell? _ _ (hc 0 (by omega))
    simpa [Addr.add] using this
  · have := hc j (by omega)
    by_cases hj0 : j = 0
    · subst hj0; simpa [Addr.add] using this
    · simpa [Addr.add, hj0] using this
theorem strs_none {w : World} {f : Nat → ByteArray} : StrsIn w w.heap.size none 0 f := ⟨Nat.zero_le _, fun j h => absurd h (by omega), fun h => absurd h (by omega)⟩
/-- The lengths of the first k strings together. -/
def totS (f : Nat → ByteArray) : Nat → Nat
  | 0 => 0
  | k + 1 => totS f k + (f k).size
theorem totS_le (f : Nat → ByteArray) {j k : Nat} (h : j ≤ k) : totS f j ≤ totS f k := by
  induction k with
  | zero => rw [show j = 0 by omega]; exact Nat.le_refl _
  | succ k ih =>
    by_cases e : j = k + 1
    · rw [e]; exact Nat.le_refl _
    · have := ih (by omega); simp only [totS]; omega
/-- How szStringS ends. -/
def SzOut (n t : Nat) (l : Int) (e : Ending) : Prop := (n + t ≤ l ∧ e = .returned (.int .i64 (l - n - t))) ∨ e = .returned (.int .i64 (-1))
theorem infoStr : (Tryd.prog.info? 9).map (fun i => (i.zero, i.size, i.bytes)) = some (some (.string ⟨#[]⟩), 1, 16) := by kernel_rfl
end Go.Proofs.YtggmcahglcnleaaDoor
namespace Go.Proofs.YtggmcahglcnleaaDoor
open Go.RowKit Go.Lib
theorem join_snoc (l : List (List UInt8)) (x sep : List UInt8) (h : l ≠ []) : join (l ++ [x]) sep = join l sep ++ (sep ++ x) := by
  cases l with
  | nil => exact absurd rfl h
  | cons y r => rw [List.cons_append, join_cons, join_cons]; simp [joinTail]
/-- The first k elements joined. -/
def joinK (f : Nat → ByteArray) (sep : List UInt8) (k : Nat) : List UInt8 := join ((List.range k).map fun j => (f j).data.toList) sep
theorem joinK_zero (f : Nat → ByteArray) (sep : List UInt8) : joinK f sep 0 = [] := rfl
theorem joinK_one (f : Nat → ByteArray) (sep : List UInt8) : joinK f sep 1 = (f 0).data.toList := join_one _ _
theorem joinK_succ (f : Nat → ByteArray) (sep : List UInt8) (k : Nat) (h : 0 < k) : joinK f sep (k + 1) = joinK f sep k ++ (sep ++ (f k).data.toList) := by
  unfold joinK
  rw [List.range_succ, List.map_append]
  exact join_snoc _ _ _ (by intro e; have := congrArg List.length e; simp at this; omega)
theorem joinK_len (f : Nat → ByteArray) (sep : List UInt8) : ∀ k, (joinK f sep k).length ≤ k * sep.length + totS f k
  | 0 => by simp [joinK_zero]
  | 1 => by simp [joinK_one, totS]
  | k + 2 => by
    have := joinK_len f sep (k + 1)
    rw [joinK_succ f sep (k + 1) (by omega)]
    simp only [List.length_append, totS, Array.length_toList] at this ⊢
    have e : (k + 2) * sep.length = (k + 1) * sep.length + sep.length := by rw [show k + 2 = (k + 1) + 1 by omega, Nat.succ_mul]
    have e2 : (f (k + 1)).data.size = (f (k + 1)).size := rfl
    omega
theorem infoByte : (Tryd.prog.info? 5).map (fun i => (i.zero, i.size, i.bytes)) = some (some (.int .u8 0), 1, 1) := by kernel_rfl
/-- The cells of bytes. -/
abbrev bcells (l : List UInt8) : List Value := l.map fun c => Value.int .u8 (c.toNat : Int)
theorem push_all : ∀ (l : List UInt8) (acc : ByteArray), (l.map fun c => (c.toNat : Int)).foldl (fun r n => r.push (UInt8.ofNat n.toNat)) acc = ⟨acc.data ++ l.toArray⟩
  | [], acc => by simp
  | c :: l, acc => by
    simp only [List.map_cons, List.foldl_cons]
    rw [push_all l]
    have e : UInt8.ofNat ((c.toNat : Int)).toNat = c := by simp
    rw [e]
    apply ByteArray.ext
    show (acc.data.push c) ++ l.toArray = acc.data ++ (c :: l).toArray
    simp
theorem conv_own (l : List UInt8) (base g cap : Nat) (w : World) (h : w.ownsRow base 5 1 (.slice (some ⟨g, 0, none⟩) l.length cap) l.length (bcells l)) :
    (convert 22 9 (.slice (some ⟨g, 0, none⟩) l.length cap)).run Tryd.prog w = .ok (.string ⟨l.toArray⟩) w := by
  rw [run_convert_bytes_string _ _ _ 5 _ _ _ Tryd.underlying22 Tryd.underlying5 Tryd.underlying9]
  rw [run_bytesToString _ _ _ _ (l.map fun c => (c.toNat : Int)) ?_]
  · rw [push_all]
    congr 2
    apply ByteArray.ext
    show #[] ++ l.toArray = l.toArray
    simp
  · have := run_loadCells_list (P := Tryd.prog) (w := w) ⟨g, 0, none⟩ (bcells l) (h.cells (by rfl))
    simpa [bcells, Function.comp_def] using this
set_option maxRecDepth 100000 in
set_option maxHeartbeats 800000 in
theorem sjoin_any (b n cap : Nat) (f : Nat → ByteArray) (by_ : ByteArray) (w : World) (hr : StrRow w b n f) (hn : n ≤ 1048576) (ht : totS f n ≤ 1048576) (hs : by_.size ≤ 1048576) :
    Calls Tryd.prog 28 #[.slice (some ⟨b, 0, none⟩) n cap, .string by_] w fun e w' => e = .returned (.string ⟨(joinK f by_.data.toList n).toArray⟩) ∧ Below w.heap.size w w' := by
  obtain ⟨i0, hi, hz0, hz1, hz2⟩ := info_parts infoByte
  have hlt := hr.lt
  have Hr := Lib.hid hr
  have HJ := Lib.hid (joinK_len f by_.data.toList)
  have Ht := Lib.hid (fun j (h : j ≤ n) => Nat.le_trans (totS_le f h) ht)
  clear hr ht
  go_enter Tryd.func28, Tryd.ntmps28
  go_wp2_with fail
  go_loopw [5, 6] (fun v i wr => ∃ j : Nat, j ≤ n ∧ i = .int .i64 j ∧ wr.ownsRow w.heap.size 5 1 v (joinK f by_.data.toList j).length (bcells (joinK f by_.data.toList j)) ∧ ¬ v = .slice none 0 0 ∧ Below w.heap.size w wr) (fun _ i _ => n - (intOf i).toNat)
  case atStart => exact ⟨0, Nat.zero_le _, rfl, World.ownsRow_lit _ #[] 0 (Nat.le_refl _) (Nat.zero_le _) rfl, by simp, (Below.refl _ _).alloc (Nat.le_refl _) _⟩
  case round =>
    obtain ⟨j, hj, rfl, hown, hnn, hb⟩ := hrel
    have hbs := hb.size
    have hJ := HJ.out j
    have hT := Ht.out j hj
    have hm : j * by_.data.toList.length ≤ 1048576 * 1048576 := Nat.mul_le_mul (by omega) (by simpa using hs)
    have hrow := Hr.out.below hb hlt
    have Hrow := Lib.hid hrow
    have Hown := Lib.hid hown
    have Hnn := Lib.hid hnn
    have Hb := Lib.hid hb
    clear hrow hown hnn hb
    by_cases hlt2 : j < n
    · have hc := Hrow.out.cell hlt2
      have hT1 := Ht.out (j + 1) (by omega)
      have hT1' : totS f j + (f j).size ≤ 1048576 := hT1
      clear hT1
      by_cases h0 : j = 0
      · subst h0
        go_wp2_with (first | (at_builtin; refine wpList_append_own_string _ rfl (.tmp 19) (.tmp 23) 22 9 rfl w.heap.size 5 i0 Tryd.underlying22 Tryd.underlying9 hi hz0 hz1 hz2 _ _ _ rfl Hown.out (f 0) rfl ?p1 ?p2 ?p3 ?_))
        case p1 => unfold maxLen; omega
        case p2 => omega
        case p3 => omega
        intro v1 w1 hown1 hg1 hnil1
        have hb1 := Hb.out.grown hg1 hbs (fun q hq => (Hown.out.lt q hq).1)
        have hnn1 : ¬ v1 = .slice none 0 0 := fun e => Hnn.out (hnil1.1 e).1
        have e1 : bcells (joinK f by_.data.toList 0) ++ strCells (f 0) = bcells (joinK f by_.data.toList (0 + 1)) := by rw [joinK_zero, joinK_one]; rfl
        have e2 : (joinK f by_.data.toList 0).length + (f 0).size = (joinK f by_.data.toList (0 + 1)).length := by rw [joinK_zero, joinK_one]; simp
        rw [e1, e2] at hown1
        have Hown1 := Lib.hid hown1
        have Hb1 := Lib.hid hb1
        have Hnn1 := Lib.hid hnn1
        clear hown1 hg1 hnil1 hb1 hnn1 e1 e2
        go_wp2_with fail
        go_roundw
        case rel => exact ⟨0 + 1, by omega, by go_num, Hown1.out, Hnn1.out, Hb1.out⟩
        case measure => simp [intOf]; omega
      · go_wp2_with (first | (at_builtin; refine wpList_append_own_string _ rfl (.tmp 16) (.tmp 17) 22 9 rfl w.heap.size 5 i0 Tryd.underlying22 Tryd.underlying9 hi hz0 hz1 hz2 _ _ _ rfl Hown.out by_ rfl ?q1 ?q2 ?q3 ?_))
        case q1 => unfold maxLen; omega
        case q2 => omega
        case q3 => omega
        intro v1 w1 hown1 hg1 hnil1
        have hb1 := Hb.out.grown hg1 hbs (fun q hq => (Hown.out.lt q hq).1)
        have hnn1 : ¬ v1 = .slice none 0 0 := fun e => Hnn.out (hnil1.1 e).1
        have hc1 := (Hr.out.below hb1 hlt).cell hlt2
        have hbs1 := hb1.size
        have Hown1 := Lib.hid hown1
        have Hb1 := Lib.hid hb1
        have Hnn1 := Lib.hid hnn1
        clear hown1 hg1 hnil1 hb1 hnn1 hc
        go_wp2_with (first | (at_builtin; refine wpList_append_own_string _ rfl (.tmp 19) (.tmp 23) 22 9 rfl w.heap.size 5 i0 Tryd.underlying22 Tryd.underlying9 hi hz0 hz1 hz2 _ _ _ rfl Hown1.out (f j) rfl ?r1 ?r2 ?r3 ?_))
        case r1 => unfold maxLen; omega
        case r2 => omega
        case r3 => omega
        intro v2 w2 hown2 hg2 hnil2
        have hb2 := Hb1.out.grown hg2 hbs1 (fun q hq => (Hown1.out.lt q hq).1)
        have hnn2 : ¬ v2 = .slice none 0 0 := fun e => Hnn1.out (hnil2.1 e).1
        have e1 : bcells (joinK f by_.data.toList j) ++ (strCells by_ ++ strCells (f j)) = bcells (joinK f by_.data.toList (j + 1)) := by rw [joinK_succ _ _ _ (by omega)]; simp [bcells, strCells]
        have e2 : (joinK f by_.data.toList j).length + by_.size + (f j).size = (joinK f by_.data.toList (j + 1)).length := by rw [joinK_succ _ _ _ (by omega)]; simp; omega
        rw [e1, e2] at hown2
        have Hown2 := Lib.hid hown2
        have Hb2 := Lib.hid hb2
        have Hnn2 := Lib.hid hnn2
        clear hown2 hg2 hnil2 hb2 hnn2 e1 e2
        go_wp2_with fail
        go_roundw
        case rel => exact ⟨j + 1, by omega, by go_num, Hown2.out, Hnn2.out, Hb2.out⟩
        case measure => simp [intOf]; omega
    · obtain rfl : j = n := by omega
      have hex : ∃ g cap, u5 = .slice (some ⟨g, 0, none⟩) (joinK f by_.data.toList j).length cap := by
        rcases Hown.out.2 with ⟨h, _⟩ | ⟨g, cap, cur, hv, _⟩
        · exact absurd h Hnn.out
        · exact ⟨g, cap, hv⟩
      obtain ⟨g, cp, hv⟩ := hex
      have hown2 := Hown.out
      rw [hv] at hown2
      have hconv := conv_own _ _ _ _ _ hown2
      clear hown2
      rw [hv]
      go_wp2_with fail
      go_ret
      exact ⟨rfl, Hb.out⟩
end Go.Proofs.YtggmcahglcnleaaDoor
namespace Go.Proofs.YtggmcahglcnleaaDoor
open Go.RowKit Go.Lib
/-- How a reader of numerals from -B to B ends. -/
def ReadOut (B : Int) (l : List UInt8) (e : Ending) : Prop := (∃ n, -B ≤ n ∧ n ≤ B ∧ itoa n = l ∧ e = .returned (.tuple #[.int .i64 n, .bool true])) ∨ ((∀ n, -B ≤ n → n ≤ B → itoa n ≠ l) ∧ e = .returned (.tuple #[.int .i64 0, .bool false]))
theorem take_next (s : ByteArray) (k : Nat) (h : k < s.size) : s.data.toList.take (k + 1) = s.data.toList.take k ++ [s[k]] := by
  rw [List.take_succ_eq_append_getElem (by simpa using h)]; rfl
theorem ne45 {c : UInt8} (h : some c ≠ some 45) : ((c.toNat : Int) == 45) = false := by
  simp
  intro x
  apply h
  have e : (45 : UInt8).toNat = 45 := rfl
  rw [show c = 45 from UInt8.toNat_inj.1 (by omega)]
theorem dval_small (l : List UInt8) (h : Digs l) (hl : l.length ≤ 12) : dval l < 1000000000000 := by
  have := dval_lt l.length l rfl h
  have h2 : 10 ^ l.length ≤ 10 ^ 12 := Nat.pow_le_pow_right (by omega) hl
  omega
set_option maxRecDepth 100000 in
set_option maxHeartbeats 400000 in
theorem read_minus (t : List UInt8) (T : ByteArray) (hT : T.data.toList = t) (most : Nat) (B : Int) (hB : ∀ l, Digs l → l.length ≤ most → (dval l : Int) ≤ B) (hm : most ≤ 12) (w : World) (h1 : 1 ≤ T.size) (h2 : T.size ≤ most) :
    Calls Tryd.prog 46 #[.string ⟨(45 :: t).toArray⟩, .int .i64 most] w fun e w' => ReadOut B (45 :: t) e ∧ Below w.heap.size w w' := by
  have hx : (ByteArray.mk (45 :: t).toArray).extract 1 (t.length + 1) = T := by
    apply ByteArray.ext; subst hT; simp
    rw [List.take_of_length_le (by simp)]
  have hts : t.length = T.size := by subst hT; simp
  have hb0 : ∀ h, (((ByteArray.mk (45 :: t).toArray)[0]'h).toNat : Int) = 45 := fun _ => rfl
  have hlen : (t.length : Int) ≤ 12 := by omega
  have HB := Lib.hid hB
  have HT := Lib.hid hT
  have HS := Lib.hid hts
  clear hT hts hB
  have hc1 : decide ((T.size : Int) < 1) = false := by simp; omega
  have hc2 : decide (most < T.size) = false := by simp; omega
  go_enter Tryd.func46, Tryd.ntmps46
  go_wp2_with fail
  go_loopw [8, 9] (fun n i wr => ∃ k : Nat, k ≤ T.size ∧ i = .int .i64 k ∧ n = .int .i64 (dval (T.data.toList.take k)) ∧ Digs (T.data.toList.take k) ∧ wr = w) (fun _ i _ => T.size - (intOf i).toNat)
  case atStart => exact ⟨0, Nat.zero_le _, rfl, rfl, Digs_nil, rfl⟩
  case round =>
    obtain ⟨k, hk, rfl, rfl, hd, rfl⟩ := hrel
    by_cases hlt : k < T.size
    · have hts := take_next T k hlt
      have hv := dval_small _ hd (by simp; omega)
      obtain ⟨v, hv2⟩ : ∃ v, v = dval (T.data.toList.take k) := ⟨_, rfl⟩
      rw [← hv2] at hv ⊢
      by_cases h48 : T[k].toNat < 48
      · have Hd := Lib.hid hd
        have Hn := Lib.hid hts
        clear hd hts
        go_wp2_with fail
        go_ret2
        refine ⟨Or.inr ⟨fun m m0 m1 e => ?_, rfl⟩, Below.refl _ _⟩
        have hD := (itoa_cut (Or.inl ⟨rfl, rfl⟩) e).2.1
        have := hD T[k] (by rw [← HT.out]; simp [ByteArray.getElem_eq_getElem_data])
        omega
      · by_cases h57 : 57 < T[k].toNat
        · have Hd := Lib.hid hd
          have Hn := Lib.hid hts
          clear hd hts
          go_wp2_with fail
          go_ret2
          refine ⟨Or.inr ⟨fun m m0 m1 e => ?_, rfl⟩, Below.refl _ _⟩
          have hD := (itoa_cut (Or.inl ⟨rfl, rfl⟩) e).2.1
          have := hD T[k] (by rw [← HT.out]; simp [ByteArray.getElem_eq_getElem_data])
          omega
        · have Hd := Lib.hid hd
          have Hn := Lib.hid hts
          have Hv := Lib.hid hv2
          clear hd hts hv2
          go_wp2_with fail
          go_roundw
          case rel => exact ⟨k + 1, by omega, by go_num, by rw [Hn.out, dval_snoc, ← Hv.out]; go_num, by rw [Hn.out]; exact Digs_snoc.2 ⟨Hd.out, by omega, by omega⟩, by first | rfl | trivial⟩
          case measure => simp [intOf]; omega
    · obtain rfl : k = T.size := by omega
      have hall : T.data.toList.take T.size = t := by rw [List.take_of_length_le (by simp)]; exact HT.out
      rw [hall] at hd ⊢
      have hv := dval_small _ hd (by omega)
      obtain ⟨v, hv2⟩ : ∃ v, v = dval t := ⟨_, rfl⟩
      rw [← hv2] at hv ⊢
      have Hd := Lib.hid hd
      have Hv := Lib.hid hv2
      clear hd hall hv2
      go_wp2_with fail
      refine (fmt_any _ _ (by omega) (by omega)).mono ?_
      rintro e w1 ⟨rfl, hb1⟩
      by_cases he : Lib.itoa (-(v : Int)) = 45 :: t
      · have hne : (Lib.itoa (-(v : Int)) == 45 :: t) = true := by simpa using he
        have He := Lib.hid he
        clear he
        go_wp2_with fail
        go_ret2
        have hbd := HB.out t Hd.out (by have := HS.out; omega)
        rw [← Hv.out] at hbd
        exact ⟨Or.inl ⟨-(v : Int), by omega, by omega, He.out, rfl⟩, hb1⟩
      · have hne : (Lib.itoa (-(v : Int)) == 45 :: t) = false := by simpa using he
        have He := Lib.hid he
        clear he
        go_wp2_with fail
        go_ret2
        refine ⟨Or.inr ⟨fun m m0 m1 e => ?_, rfl⟩, hb1⟩
        have hm := (itoa_cut (Or.inl ⟨rfl, rfl⟩) e).2.2.1
        rw [sval_true, ← Hv.out] at hm
        exact He.out (by rw [← hm]; exact e)
set_option maxRecDepth 100000 in
set_option maxHeartbeats 400000 in
theorem read_plain (t : List UInt8) (T : ByteArray) (hT : T.data.toList = t) (h45 : t.head? ≠ some 45) (most : Nat) (B : Int) (hB : ∀ l, Digs l → l.length ≤ most → (dval l : Int) ≤ B) (hm : most ≤ 12) (w : World) (h1 : 1 ≤ T.size) (h2 : T.size ≤ most) :
    Calls Tryd.prog 46 #[.string T, .int .i64 most] w fun e w' => ReadOut B t e ∧ Below w.heap.size w w' := by
  have hts : t.length = T.size := by subst hT; simp
  have hb0 : ∀ h, (((T[0]'h).toNat : Int) == 45) = false := fun h => by
    have e : t.head? = some (T[0]'h) := by subst hT; rw [List.head?_eq_getElem?]; simp [ByteArray.getElem_eq_getElem_data]
    rw [e] at h45
    exact ne45 h45
  have hlen : (t.length : Int) ≤ 12 := by omega
  have HB := Lib.hid hB
  have H45 := Lib.hid h45
  have hTl : T.toList = t := by rw [ByteArray.toList_eq]; exact hT
  have HT := Lib.hid hT
  have HS := Lib.hid hts
  clear hT hts hB h45
  have hc1 : decide ((T.size : Int) < 1) = false := by simp; omega
  have hc2 : decide (most < T.size) = false := by simp; omega
  go_enter Tryd.func46, Tryd.ntmps46
  go_wp2_with fail
  go_loopw [8, 9] (fun n i wr => ∃ k : Nat, k ≤ T.size ∧ i = .int .i64 k ∧ n = .int .i64 (dval (T.data.toList.take k)) ∧ Digs (T.data.toList.take k) ∧ wr = w) (fun _ i _ => T.size - (intOf i).toNat)
  case atStart => exact ⟨0, Nat.zero_le _, rfl, rfl, Digs_nil, rfl⟩
  case round =>
    obtain ⟨k, hk, rfl, rfl, hd, rfl⟩ := hrel
    by_cases hlt : k < T.size
    · have hts := take_next T k hlt
      have hv := dval_small _ hd (by simp; omega)
      obtain ⟨v, hv2⟩ : ∃ v, v = dval (T.data.toList.take k) := ⟨_, rfl⟩
      rw [← hv2] at hv ⊢
      by_cases h48 : T[k].toNat < 48
      · have Hd := Lib.hid hd
        have Hn := Lib.hid hts
        clear hd hts
        go_wp2_with fail
        go_ret2
        refine ⟨Or.inr ⟨fun m m0 m1 e => ?_, rfl⟩, Below.refl _ _⟩
        have hD := (itoa_cut (Or.inr ⟨rfl, rfl, H45.out⟩) e).2.1
        have := hD T[k] (by rw [← HT.out]; simp [ByteArray.getElem_eq_getElem_data])
        omega
      · by_cases h57 : 57 < T[k].toNat
        · have Hd := Lib.hid hd
          have Hn := Lib.hid hts
          clear hd hts
          go_wp2_with fail
          go_ret2
          refine ⟨Or.inr ⟨fun m m0 m1 e => ?_, rfl⟩, Below.refl _ _⟩
          have hD := (itoa_cut (Or.inr ⟨rfl, rfl, H45.out⟩) e).2.1
          have := hD T[k] (by rw [← HT.out]; simp [ByteArray.getElem_eq_getElem_data])
          omega
        · have Hd := Lib.hid hd
          have Hn := Lib.hid hts
          have Hv := Lib.hid hv2
          clear hd hts hv2
          go_wp2_with fail
          go_roundw
          case rel => exact ⟨k + 1, by omega, by go_num, by rw [Hn.out, dval_snoc, ← Hv.out]; go_num, by rw [Hn.out]; exact Digs_snoc.2 ⟨Hd.out, by omega, by omega⟩, by first | rfl | trivial⟩
          case measure => simp [intOf]; omega
    · obtain rfl : k = T.size := by omega
      have hall : T.data.toList.take T.size = t := by rw [List.take_of_length_le (by simp)]; exact HT.out
      rw [hall] at hd ⊢
      have hv := dval_small _ hd (by omega)
      obtain ⟨v, hv2⟩ : ∃ v, v = dval t := ⟨_, rfl⟩
      rw [← hv2] at hv ⊢
      have Hd := Lib.hid hd
      have Hv := Lib.hid hv2
      clear hd hall hv2
      go_wp2_with fail
      refine (fmt_any _ _ (by omega) (by omega)).mono ?_
      rintro e w1 ⟨rfl, hb1⟩
      by_cases he : Lib.itoa ((v : Int)) = t
      · have hne : (Lib.itoa ((v : Int)) == t) = true := by simpa using he
        have He := Lib.hid he
        clear he
        go_wp2_with fail
        go_ret2
        have hbd := HB.out t Hd.out (by have := HS.out; omega)
        rw [← Hv.out] at hbd
        exact ⟨Or.inl ⟨(v : Int), by omega, by omega, He.out, rfl⟩, hb1⟩
      · have hne : (Lib.itoa ((v : Int)) == t) = false := by simpa using he
        have He := Lib.hid he
        clear he
        go_wp2_with fail
        go_ret2
        refine ⟨Or.inr ⟨fun m m0 m1 e => ?_, rfl⟩, hb1⟩
        have hm := (itoa_cut (Or.inr ⟨rfl, rfl, H45.out⟩) e).2.2.1
        rw [sval_false, ← Hv.out] at hm
        exact He.out (by rw [← hm]; exact e)
set_option maxRecDepth 100000 in
set_option maxHeartbeats 400000 in
theorem read_minus_no (t : List UInt8) (T : ByteArray) (hT : T.data.toList = t) (most : Nat) (w : World) (h : T.size < 1 ∨ most < T.size) (hm : t.length ≤ 9223372036854775800) :
    Calls Tryd.prog 46 #[.string ⟨(45 :: t).toArray⟩, .int .i64 most] w fun e w' => e = .returned (.tuple #[.int .i64 0, .bool false]) ∧ w = w' := by
  have hx : (ByteArray.mk (45 :: t).toArray).extract 1 (t.length + 1) = T := by
    apply ByteArray.ext; subst hT; simp
    rw [List.take_of_length_le (by simp)]
  have hts : t.length = T.size := by subst hT; simp
  have hb0 : ∀ h, (((ByteArray.mk (45 :: t).toArray)[0]'h).toNat : Int) = 45 := fun _ => rfl
  have HT := Lib.hid hT
  have hts' : (T.size : Int) ≤ 9223372036854775800 := by omega
  clear hT hts
  rcases h with h | h
  · have hc1 : decide ((T.size : Int) < 1) = true := by simp; omega
    go_enter Tryd.func46, Tryd.ntmps46
    go_wp2_with fail
    go_ret2
    exact ⟨rfl, rfl⟩
  · by_cases h1 : T.size < 1
    · have hc1 : decide ((T.size : Int) < 1) = true := by simp; omega
      go_enter Tryd.func46, Tryd.ntmps46
      go_wp2_with fail
      go_ret2
      exact ⟨rfl, rfl⟩
    · have hc1 : decide ((T.size : Int) < 1) = false := by simp; omega
      have hc2 : decide (most < T.size) = true := by simp; omega
      go_enter Tryd.func46, Tryd.ntmps46
      go_wp2_with fail
      go_ret2
      exact ⟨rfl, rfl⟩
set_option maxRecDepth 100000 in
set_option maxHeartbeats 400000 in
theorem read_plain_no (T : ByteArray) (h45 : T.data.toList.head? ≠ some 45) (most : Nat) (w : World) (h : T.size < 1 ∨ most < T.size) (hm : T.size ≤ 9223372036854775800) :
    Calls Tryd.prog 46 #[.string T, .int .i64 most] w fun e w' => e = .returned (.tuple #[.int .i64 0, .bool false]) ∧ w = w' := by
  have hb0 : ∀ h, (((T[0]'h).toNat : Int) == 45) = false := fun h => by
    have e : T.data.toList.head? = some (T[0]'h) := by rw [List.head?_eq_getElem?]; simp [ByteArray.getElem_eq_getElem_data]
    rw [e] at h45
    exact ne45 h45
  clear h45
  by_cases h1 : T.size < 1
  · have hc1 : decide ((T.size : Int) < 1) = true := by simp; omega
    clear h
    go_enter Tryd.func46, Tryd.ntmps46
    go_wp2_with fail
    go_ret2
    exact ⟨rfl, rfl⟩
  · have hc1 : decide ((T.size : Int) < 1) = false := by simp; omega
    have hc2 : decide (most < T.size) = true := by simp; omega
    clear h
    go_enter Tryd.func46, Tryd.ntmps46
    go_wp2_with fail
    go_ret2
    exact ⟨rfl, rfl⟩
/-- spec.l1Read at every string. -/
theorem read_any (s : ByteArray) (most : Nat) (B : Int) (hB : ∀ l, Digs l → l.length ≤ most → (dval l : Int) ≤ B) (hN : ∀ n : Int, -B ≤ n → n ≤ B → n.natAbs < 10 ^ most) (h1 : 1 ≤ most) (hm : most ≤ 12) (hs : s.size ≤ 9223372036854775800) (w : World) :
    Calls Tryd.prog 46 #[.string s, .int .i64 most] w fun e w' => ReadOut B s.data.toList e ∧ Below w.heap.size w w' := by
  obtain ⟨k, rfl⟩ : ∃ k, most = k + 1 := ⟨most - 1, by omega⟩
  by_cases h45 : s.data.toList.head? = some 45
  · obtain ⟨t, ht⟩ : ∃ t, s.data.toList = 45 :: t := by
      cases h : s.data.toList with
      | nil => rw [h] at h45; cases h45
      | cons c r => rw [h] at h45; simp at h45; subst h45; exact ⟨r, rfl⟩
    have e : s = ⟨(45 :: t).toArray⟩ := by rw [← ht]
    have hl : s.size = t.length + 1 := by rw [e]; simp [ByteArray.size]
    have eT : (ByteArray.mk t.toArray).data.toList = t := rfl
    have sT : (ByteArray.mk t.toArray).size = t.length := rfl
    rw [ht, e]
    by_cases hb : 1 ≤ t.length ∧ t.length ≤ k + 1
    · exact read_minus t ⟨t.toArray⟩ rfl (k + 1) B hB hm w (by omega) (by omega)
    · refine (read_minus_no t ⟨t.toArray⟩ rfl (k + 1) w (by omega) (by omega)).mono ?_
      rintro _ _ ⟨rfl, rfl⟩
      exact ⟨Or.inr ⟨fun n n0 n1 en => hb (itoa_cut_len (Or.inl ⟨rfl, rfl⟩) en (hN n n0 n1)), rfl⟩, Below.refl _ _⟩
  · have hl : s.data.toList.length = s.size := by simp
    by_cases hb : 1 ≤ s.size ∧ s.size ≤ k + 1
    · exact read_plain _ s rfl h45 (k + 1) B hB hm w hb.1 hb.2
    · refine (read_plain_no s h45 (k + 1) w (by omega) (by omega)).mono ?_
      rintro _ _ ⟨rfl, rfl⟩
      exact ⟨Or.inr ⟨fun n n0 n1 en => hb (by have := itoa_cut_len (Or.inr ⟨rfl, rfl, h45⟩) en (hN n n0 n1); omega), rfl⟩, Below.refl _ _⟩
end Go.Proofs.YtggmcahglcnleaaDoor
namespace Go.Proofs.YtggmcahglcnleaaDoor
open Go.RowKit Go.Lib
theorem itoa_inj {n m : Int} (h : itoa n = itoa m) (a0 : -999999999999 ≤ n) (a1 : n ≤ 999999999999) (b0 : -999999999999 ≤ m) (b1 : m ≤ 999999999999) : n = m := by
  have h1 := atoiAll_itoa n (by omega) (by omega)
  rw [h, atoiAll_itoa m (by omega) (by omega)] at h1
  injection h1 with h1
  exact h1.symm
theorem lim6 (l : List UInt8) (h : Digs l) (hl : l.length ≤ 6) : (dval l : Int) ≤ 999999 := by
  have := dval_lt l.length l rfl h
  have h2 : 10 ^ l.length ≤ 10 ^ 6 := Nat.pow_le_pow_right (by omega) hl
  omega
theorem lim12 (l : List UInt8) (h : Digs l) (hl : l.length ≤ 12) : (dval l : Int) ≤ 999999999999 := by
  have := dval_lt l.length l rfl h
  have h2 : 10 ^ l.length ≤ 10 ^ 12 := Nat.pow_le_pow_right (by omega) hl
  omega
theorem spi_any (s : ByteArray) (hs : s.size ≤ 9223372036854775800) (w : World) :
    Calls Tryd.prog 46 #[.string s, .int .i64 12] w fun e w' => ReadOut 999999999999 s.data.toList e ∧ Below w.heap.size w w' :=
  read_any s 12 999999999999 lim12 (by intro n a b; omega) (by omega) (by omega) hs w
theorem spn_any (s : ByteArray) (hs : s.size ≤ 9223372036854775800) (w : World) :
    Calls Tryd.prog 46 #[.string s, .int .i64 6] w fun e w' => ReadOut 999999 s.data.toList e ∧ Below w.heap.size w w' :=
  read_any s 6 999999 lim6 (by intro n a b; omega) (by omega) (by omega) hs w
set_option maxRecDepth 100000 in
set_option maxHeartbeats 400000 in
theorem spn_yes (s : ByteArray) (n : Int) (hs : s.size ≤ 9223372036854775800) (hn : itoa n = s.data.toList) (n0 : 0 ≤ n) (n1 : n ≤ 999999) (w : World) :
    Calls Tryd.prog 27 #[.string s] w fun e w' => e = .returned (.tuple #[.int .i64 n, .bool true]) ∧ Below w.heap.size w w' := by
  have Hn := Lib.hid hn
  clear hn
  go_enter Tryd.func27, Tryd.ntmps27
  go_wp2_with fail
  refine (spn_any s hs _).mono ?_
  rintro e w1 ⟨hr, hb1⟩
  rcases hr with ⟨m, m0, m1, hm, rfl⟩ | ⟨hno, rfl⟩
  · obtain rfl : m = n := itoa_inj (hm.trans Hn.out.symm) (by omega) (by omega) (by omega) (by omega)
    clear hm
    go_wp2_with fail
    go_ret2
    exact ⟨rfl, hb1⟩
  · exact absurd Hn.out (hno n (by omega) n1)
set_option maxRecDepth 100000 in
set_option maxHeartbeats 400000 in
theorem spn_no (s : ByteArray) (hs : s.size ≤ 9223372036854775800) (hn : ∀ n : Int, 0 ≤ n → n ≤ 999999 → itoa n ≠ s.data.toList) (w : World) :
    Calls Tryd.prog 27 #[.string s] w fun e w' => e = .returned (.tuple #[.int .i64 0, .bool false]) ∧ Below w.heap.size w w' := by
  have Hn := Lib.hid hn
  clear hn
  go_enter Tryd.func27, Tryd.ntmps27
  go_wp2_with fail
  refine (spn_any s hs _).mono ?_
  rintro e w1 ⟨hr, hb1⟩
  rcases hr with ⟨m, m0, m1, hm, rfl⟩ | ⟨hno, rfl⟩
  · have hneg : m < 0 := by
      rcases (show m < 0 ∨ 0 ≤ m by omega) with h | h
      · exact h
      · exact absurd hm (Hn.out m h m1)
    clear hm
    go_wp2_with fail
    go_ret2
    exact ⟨rfl, hb1⟩
  · clear hno
    go_wp2_with fail
    go_ret2
    exact ⟨rfl, hb1⟩
set_option maxRecDepth 100000 in
set_option maxHeartbeats 400000 in
theorem spi_yes (s : ByteArray) (n : Int) (hs : s.size ≤ 9223372036854775800) (hn : itoa n = s.data.toList) (n0 : -999999999999 ≤ n) (n1 : n ≤ 999999999999) (w : World) :
    Calls Tryd.prog 26 #[.string s] w fun e w' => e = .returned (.tuple #[.int .i64 n, .bool true]) ∧ Below w.heap.size w w' := by
  have Hn := Lib.hid hn
  clear hn
  go_enter Tryd.func26, Tryd.ntmps26
  go_wp2_with fail
  refine (spi_any s hs _).mono ?_
  rintro e w1 ⟨hr, hb1⟩
  rcases hr with ⟨m, m0, m1, hm, rfl⟩ | ⟨hno, rfl⟩
  · obtain rfl : m = n := itoa_inj (hm.trans Hn.out.symm) (by omega) (by omega) (by omega) (by omega)
    clear hm
    go_wp2_with fail
    go_ret2
    exact ⟨rfl, hb1⟩
  · exact absurd Hn.out (hno n n0 n1)
set_option maxRecDepth 100000 in
set_option maxHeartbeats 400000 in
theorem spi_no (s : ByteArray) (hs : s.size ≤ 9223372036854775800) (hn : ∀ n : Int, -999999999999 ≤ n → n ≤ 999999999999 → itoa n ≠ s.data.toList) (w : World) :
    Calls Tryd.prog 26 #[.string s] w fun e w' => e = .returned (.tuple #[.int .i64 0, .bool false]) ∧ Below w.heap.size w w' := by
  have Hn := Lib.hid hn
  clear hn
  go_enter Tryd.func26, Tryd.ntmps26
  go_wp2_with fail
  refine (spi_any s hs _).mono ?_
  rintro e w1 ⟨hr, hb1⟩
  rcases hr with ⟨m, m0, m1, hm, rfl⟩ | ⟨hno, rfl⟩
  · exact absurd hm (Hn.out m m0 m1)
  · clear hno
    go_wp2_with fail
    go_ret2
    exact ⟨rfl, hb1⟩
end Go.Proofs.YtggmcahglcnleaaDoor
namespace Go.Proofs.YtggmcahglcnleaaDoor
open Go.RowKit Go.Lib
set_option maxRecDepth 100000 in
set_option maxHeartbeats 400000 in
theorem split_any (s : ByteArray) (c : UInt8) (w : World) (hs : s.size ≤ 1048576) :
    Calls Tryd.prog 25 #[.string s, .int .u8 c.toNat] w fun e w' => (∃ v, e = .returned v ∧ w'.ownsRow w.heap.size 9 1 v (pcs c s).length ((pcs c s).map Value.string)) ∧ Below w.heap.size w w' := by
  obtain ⟨i0, hi, hz0, hz1, hz2⟩ := info_parts infoStr
  go_enter Tryd.func25, Tryd.ntmps25
  go_wp2_with fail
  go_loopw [5, 6, 7] (fun v fr i wr => ∃ (k f : Nat) (done : List ByteArray), i = .int .i64 k ∧ fr = .int .i64 f ∧ wr.ownsRow w.heap.size 9 1 v done.length (done.map Value.string) ∧ done.length ≤ k ∧ Below w.heap.size w wr ∧
      ((k ≤ s.size ∧ f ≤ k ∧ (∀ j, f ≤ j → j < k → s.data.toList[j]? ≠ some c) ∧ done ++ pcs c (s.extract f s.size) = pcs c s) ∨ (k = s.size + 1 ∧ done = pcs c s))) (fun _ _ i _ => s.size + 1 - (intOf i).toNat)
  case atStart => exact ⟨0, 0, [], rfl, rfl, World.ownsRow_lit _ #[] 0 (Nat.le_refl _) (Nat.zero_le _) rfl, Nat.zero_le _, (Below.refl _ _).alloc (Nat.le_refl _) _, Or.inl ⟨Nat.zero_le _, Nat.le_refl _, fun j _ h => absurd h (by omega), by rw [pcs_whole]; rfl⟩⟩
  case round =>
    obtain ⟨k, f, done, rfl, rfl, hown, hdl, hbel, hst⟩ := hrel
    have Hown := Lib.hid hown
    have Hbel := Lib.hid hbel
    have hsz := hbel.size
    clear hown hbel
    rcases hst with ⟨hk, hfk, hno, hdone⟩ | ⟨rfl, hdone⟩
    · have Hno := Lib.hid hno
      have Hdone := Lib.hid hdone
      clear hno hdone
      by_cases hend : k = s.size
      · subst hend
        have he : ((s.size : Int) == s.size) = true := by simp
        go_wp2_with (first
          | (at_builtin; refine wpList_append_own _ rfl _ _ 44 rfl w.heap.size 9 i0 (.string ⟨#[]⟩) 1 16 Tryd.underlying44 hi hz0 hz1 hz2 rfl (by decide) _ _ _ rfl (Hown.out.alloc _) ⟨wr.heap.size, 0, none⟩ 1 1 [.string (s.extract f s.size)] rfl rfl ?e1 ?e2 ?e3 ?e4 ?e5 ?_))
        case e1 =>
          intro j u hj
          match j, hj with
          | 0, hj => simp at hj; subst hj; simp [Addr.add]
        case e2 => intro u hu; simp at hu; subst hu; rfl
        case e3 => unfold maxLen; omega
        case e4 => omega
        case e5 => simp; omega
        intro v' w1 hown' hgrow _
        have hb1 := ((Hbel.out.alloc (by omega) (.cells #[.string (s.extract f s.size)] 9)).grown hgrow (by simp; omega) (fun q hq => by have := Hown.out.lt q hq; omega))
        have Hown1 := Lib.hid hown'
        have Hb1 := Lib.hid hb1
        clear hown' hgrow hb1
        go_wp2_with fail
        go_roundw
        case rel =>
          refine ⟨s.size + 1, s.size + 1, done ++ [s.extract f s.size], by go_num, by go_num, by simpa using Hown1.out, by simp; omega, Hb1.out, ?_⟩
          refine Or.inr ⟨rfl, ?_⟩
          rw [← Hdone.out, pcs_last c s f (fun j a b => Hno.out j a b)]
        case measure => first | (simp [intOf]; done) | (simp [intOf]; omega)
      · have hlt : k < s.size := by omega
        have he : ((k : Int) == s.size) = false := by simp; omega
        have hget : s.data.toList[k]? = some s[k] := by rw [List.getElem?_eq_getElem (by simpa using hlt)]; rfl
        have Hget := Lib.hid hget
        clear hget
        by_cases hc : s[k] = c
        · have hq : ((s[k].toNat : Int) == c.toNat) = true := by rw [hc]; simp
          have Hc := Lib.hid hc
          clear hc
          go_wp2_with (first
            | (at_builtin; refine wpList_append_own _ rfl _ _ 44 rfl w.heap.size 9 i0 (.string ⟨#[]⟩) 1 16 Tryd.underlying44 hi hz0 hz1 hz2 rfl (by decide) _ _ _ rfl (Hown.out.alloc _) ⟨wr.heap.size, 0, none⟩ 1 1 [.string (s.extract f k)] rfl rfl ?d1 ?d2 ?d3 ?d4 ?d5 ?_))
          case d1 =>
            intro j u hj
            match j, hj with
            | 0, hj => simp at hj; subst hj; simp [Addr.add]
          case d2 => intro u hu; simp at hu; subst hu; rfl
          case d3 => unfold maxLen; omega
          case d4 => omega
          case d5 => simp; omega
          intro v' w1 hown' hgrow _
          have hb1 := ((Hbel.out.alloc (by omega) (.cells #[.string (s.extract f k)] 9)).grown hgrow (by simp; omega) (fun q hq => by have := Hown.out.lt q hq; omega))
          have Hown1 := Lib.hid hown'
          have Hb1 := Lib.hid hb1
          clear hown' hgrow hb1
          go_wp2_with fail
          go_roundw
          case rel =>
            refine ⟨k + 1, k + 1, done ++ [s.extract f k], by go_num, by go_num, by simpa using Hown1.out, by simp; omega, Hb1.out, ?_⟩
            refine Or.inl ⟨by omega, Nat.le_refl _, fun j a b => absurd b (by omega), ?_⟩
            rw [← Hdone.out, pcs_step c s f k hfk hlt (by rw [Hget.out, Hc.out]) (fun j a b => Hno.out j a b)]
            simp
          case measure => first | (simp [intOf]; done) | (simp [intOf]; omega)
        · have hq : ((s[k].toNat : Int) == c.toNat) = false := by
            simp
            intro x; exact hc (UInt8.toNat_inj.1 (by omega))
          have Hc := Lib.hid hc
          clear hc
          go_wp2_with fail
          go_roundw
          case rel =>
            refine ⟨k + 1, f, done, by go_num, rfl, Hown.out, by omega, Hbel.out, Or.inl ⟨by omega, by omega, fun j a b => ?_, Hdone.out⟩⟩
            by_cases e : j = k
            · subst e; rw [Hget.out]; intro e; injection e with e; exact Hc.out e
            · exact Hno.out j a (by omega)
          case measure => first | (simp [intOf]; done) | (simp [intOf]; omega)
    · have Hdone := Lib.hid hdone
      clear hdone
      go_wp2_with fail
      go_ret
      exact ⟨⟨_, rfl, by rw [← Hdone.out]; exact Hown.out⟩, Hbel.out⟩
end Go.Proofs.YtggmcahglcnleaaDoor
