/- B01: several of our texts in one: Digits JoinP Fmt StrTab. -/
import Derived.Test.YtbnkanlebjpkfaaGreatDoorB07
import Derived.Lib.ItoaMem
import Derived.Lib.AtoiAllCases
import Derived.Lib.Join
import Derived.WalkKit
import Derived.WalkSpells
import Derived.WalkLawsBesides
import Derived.Lib.Hide
import Derived.Test.YtbnkanlebjpkfaaGreatDoorRows
import Derived.Lib.LaidTab
import Derived.Lib.SmallJoins
namespace Go.Proofs.YtbnkanlebjpkfaaGreatDoor
open Go.Lib
/-- The number that digits spell. -/
def dval (l : List UInt8) : Nat := l.foldl (fun a c => 10 * a + (c.toNat - 48)) 0
/-- Every byte is a digit. -/
def Digs (l : List UInt8) : Prop := ∀ c ∈ l, 48 ≤ c.toNat ∧ c.toNat ≤ 57
theorem dval_snoc (l : List UInt8) (c : UInt8) : dval (l ++ [c]) = 10 * dval l + (c.toNat - 48) := by simp [dval]
theorem Digs_nil : Digs [] := by intro c h; cases h
theorem Digs_snoc {l : List UInt8} {c : UInt8} : Digs (l ++ [c]) ↔ Digs l ∧ 48 ≤ c.toNat ∧ c.toNat ≤ 57 := by
  unfold Digs
  constructor
  · intro h; exact ⟨fun d hd => h d (by simp [hd]), h c (by simp)⟩
  · rintro ⟨h, hc⟩ d hd
    rcases List.mem_append.1 hd with hd | hd
    · exact h d hd
    · simp at hd; subst hd; exact hc
theorem snoc_cases (l : List UInt8) : l = [] ∨ ∃ r c, l = r ++ [c] := by
  rcases List.eq_nil_or_concat l with h | ⟨r, c, h⟩
  · exact Or.inl h
  · exact Or.inr ⟨r, c, by simpa using h⟩
theorem dval_lt : ∀ (n : Nat) (l : List UInt8), l.length = n → Digs l → dval l < 10 ^ n
  | 0, l, hl, _ => by
    have : l = [] := List.length_eq_zero_iff.1 hl
    subst this; simp [dval]
  | n + 1, l, hl, hd => by
    rcases snoc_cases l with rfl | ⟨r, c, rfl⟩
    · simp at hl
    · have h2 := Digs_snoc.1 hd
      have h1 := dval_lt n r (by simpa using hl) h2.1
      rw [dval_snoc, Nat.pow_succ]; omega
theorem toNat_digit {k : Nat} (h : k < 10) : (UInt8.ofNat (48 + k)).toNat = 48 + k := by simp; omega
theorem decDigits_digs (u : Nat) : Digs (decDigits u) := by
  induction u using Nat.strongRecOn with
  | _ u ih =>
    rw [decDigits]
    by_cases h : u < 10
    · rw [dif_pos h]; intro c hc; simp only [List.mem_cons, List.not_mem_nil, or_false] at hc; subst hc; rw [toNat_digit h]; omega
    · rw [dif_neg h]; exact Digs_snoc.2 ⟨ih _ (by omega), by rw [toNat_digit (by omega)]; omega⟩
theorem dval_decDigits (u : Nat) : dval (decDigits u) = u := by
  induction u using Nat.strongRecOn with
  | _ u ih =>
    rw [decDigits]
    by_cases h : u < 10
    · rw [dif_pos h]; show 10 * 0 + ((UInt8.ofNat (48 + u)).toNat - 48) = u; rw [toNat_digit h]; omega
    · rw [dif_neg h, dval_snoc, ih _ (by omega), toNat_digit (by omega)]; omega
theorem decDigits_ne (u : Nat) : decDigits u ≠ [] := by
  rw [decDigits]; split <;> simp
theorem decDigits_len_le : ∀ (n u : Nat), u < 10 ^ (n + 1) → (decDigits u).length ≤ n + 1
  | 0, u, h => by rw [decDigits, dif_pos (by simpa using h)]; simp
  | n + 1, u, h => by
    rw [decDigits]
    by_cases hu : u < 10
    · rw [dif_pos hu]; simp
    · rw [dif_neg hu]
      have := decDigits_len_le n (u / 10) (by rw [Nat.pow_succ] at h; omega)
      simp; omega
theorem decDigits_head (u : Nat) : ∃ c r, decDigits u = c :: r ∧ 48 ≤ c.toNat ∧ c.toNat ≤ 57 := by
  cases h : decDigits u with
  | nil => exact absurd h (decDigits_ne u)
  | cons c r => exact ⟨c, r, rfl, decDigits_digs u c (by rw [h]; simp)⟩
theorem itoa_minus {n : Int} {r : List UInt8} (h : itoa n = 45 :: r) : n < 0 ∧ r = decDigits n.natAbs := by
  unfold itoa at h
  by_cases hn : n < 0
  · rw [if_pos hn] at h; simp at h; exact ⟨hn, h.symm⟩
  · rw [if_neg hn] at h
    obtain ⟨c, t, e, h1, _⟩ := decDigits_head n.toNat
    rw [e] at h
    injection h with h _
    subst h; simp at h1
theorem itoa_plain {n : Int} {c : UInt8} {r : List UInt8} (h : itoa n = c :: r) (hc : c ≠ 45) : 0 ≤ n ∧ c :: r = decDigits n.toNat := by
  unfold itoa at h
  by_cases hn : n < 0
  · rw [if_pos hn] at h; injection h with h _; exact absurd h.symm hc
  · rw [if_neg hn] at h; exact ⟨by omega, h.symm⟩
theorem itoa_ne (n : Int) : itoa n ≠ [] := by
  unfold itoa; split
  · simp
  · exact decDigits_ne _
/-- What the digits behind the sign spell, with the sign. -/
def sval (b : Bool) (t : List UInt8) : Int := if b then -(dval t : Int) else dval t
theorem sval_true (t : List UInt8) : sval true t = -(dval t : Int) := rfl
theorem sval_false (t : List UInt8) : sval false t = dval t := rfl
/-- A string with a sign b and the rest t. -/
def Cut (l : List UInt8) (b : Bool) (t : List UInt8) : Prop := (b = true ∧ l = 45 :: t) ∨ (b = false ∧ l = t ∧ t.head? ≠ some 45)
theorem itoa_cut {n : Int} {l t : List UInt8} {b : Bool} (hc : Cut l b t) (h : itoa n = l) : t ≠ [] ∧ Digs t ∧ n = sval b t ∧ t = decDigits n.natAbs := by
  rcases hc with ⟨rfl, rfl⟩ | ⟨rfl, rfl, h45⟩
  · obtain ⟨hn, rfl⟩ := itoa_minus h
    exact ⟨decDigits_ne _, decDigits_digs _, by rw [sval_true, dval_decDigits]; omega, rfl⟩
  · cases l with
    | nil => exact absurd h (itoa_ne n)
    | cons c r =>
      obtain ⟨hn, e⟩ := itoa_plain h (by intro e; subst e; simp at h45)
      rw [e]
      exact ⟨decDigits_ne _, decDigits_digs _, by rw [sval_false, dval_decDigits]; omega, by rw [show n.natAbs = n.toNat by omega]⟩
theorem itoa_cut_len {n : Int} {l t : List UInt8} {b : Bool} {k : Nat} (hc : Cut l b t) (h : itoa n = l) (hn : n.natAbs < 10 ^ (k + 1)) : 1 ≤ t.length ∧ t.length ≤ k + 1 := by
  obtain ⟨h1, _, _, h4⟩ := itoa_cut hc h
  have := decDigits_len_le k n.natAbs hn
  rw [← h4] at this
  exact ⟨by cases t with | nil => exact absurd rfl h1 | cons _ _ => simp, this⟩
theorem itoa_len (n : Int) (h0 : -9223372036854775808 ≤ n) (h1 : n ≤ 9223372036854775807) : (itoa n).length ≤ 21 := by
  unfold itoa
  split
  · have := decDigits_len_le 19 n.natAbs (by omega); simp; omega
  · have := decDigits_len_le 19 n.toNat (by omega); omega
/-! ### strconv.Atoi at a numeral -/
theorem parse_digs : ∀ (l : List UInt8) (acc : Nat), Digs l → acc * 10 ^ l.length + dval l < 18446744073709551616 → parseUint10 acc l = .ok (acc * 10 ^ l.length + dval l) := by
  intro l
  suffices H : ∀ (l : List UInt8) (acc : Nat), Digs l → l.foldl (fun a c => 10 * a + (c.toNat - 48)) acc < 18446744073709551616 → parseUint10 acc l = .ok (l.foldl (fun a c => 10 * a + (c.toNat - 48)) acc) by
    have F : ∀ (l : List UInt8) (acc : Nat), l.foldl (fun a c => 10 * a + (c.toNat - 48)) acc = acc * 10 ^ l.length + dval l := by
      intro l
      induction l with
      | nil => intro acc; simp [dval]
      | cons c l ih =>
        intro acc
        simp only [List.foldl_cons, List.length_cons, dval]
        rw [ih, ih (10 * 0 + (c.toNat - 48)), Nat.pow_succ]
        simp only [Nat.mul_zero, Nat.zero_add, Nat.add_mul]
        rw [Nat.mul_comm 10 acc, Nat.mul_assoc, Nat.mul_comm 10, ← Nat.add_assoc]
    intro acc hd hlt
    rw [← F] at hlt ⊢
    exact H l acc hd hlt
  intro l
  induction l with
  | nil => intro acc _ _; rfl
  | cons c l ih =>
    intro acc hd hlt
    have hc := hd c (by simp)
    have hl : Digs l := fun d h => hd d (by simp [h])
    have grow : ∀ (l : List UInt8) (a : Nat), a ≤ l.foldl (fun a c => 10 * a + (c.toNat - 48)) a := by
      intro l
      induction l with
      | nil => intro a; exact Nat.le_refl _
      | cons c l ih => intro a; exact Nat.le_trans (show a ≤ 10 * a + (c.toNat - 48) by omega) (ih _)
    simp only [List.foldl_cons] at hlt ⊢
    have hg := grow l (10 * acc + (c.toNat - 48))
    rw [parseUint10, if_pos hc, if_neg (by omega), if_neg (by omega), show acc * 10 + (c.toNat - 48) = 10 * acc + (c.toNat - 48) by omega]
    exact ih _ hl hlt
theorem atoiAll_itoa (n : Int) (h0 : -9223372036854775808 ≤ n) (h1 : n ≤ 9223372036854775807) : atoiAll (itoa n) = .ok n := by
  have key : ∀ u : Nat, u < 18446744073709551616 → parseMag (decDigits u) = .ok u := by
    intro u hu
    unfold parseMag
    rw [if_neg (decDigits_ne u), parse_digs _ 0 (decDigits_digs u) (by rw [dval_decDigits]; omega), dval_decDigits]
    simp
  by_cases hn : n < 0
  · have e : itoa n = 45 :: decDigits n.natAbs := by unfold itoa; rw [if_pos hn]
    rw [e, atoiAll_minus, key _ (by omega)]
    show (if 9223372036854775808 < n.natAbs then NumEnd.range else NumEnd.ok (-(n.natAbs : Int))) = _
    rw [if_neg (by omega)]; congr 1; omega
  · have e : itoa n = decDigits n.toNat := by unfold itoa; rw [if_neg hn]
    obtain ⟨c, r, ec, c1, c2⟩ := decDigits_head n.toNat
    have k := key n.toNat (by omega)
    rw [ec] at k
    rw [e, ec, atoiAll_plain c r (by omega) (by omega), k]
    show (if 9223372036854775808 ≤ n.toNat then NumEnd.range else NumEnd.ok (n.toNat : Int)) = _
    rw [if_neg (by omega)]; congr 1; omega
end Go.Proofs.YtbnkanlebjpkfaaGreatDoor
namespace Go.Proofs.YtbnkanlebjpkfaaGreatDoor
open Go.Lib
theorem join_step (x : List UInt8) (r : List (List UInt8)) (sep : List UInt8) (h : r ≠ []) : join (x :: r) sep = x ++ (sep ++ join r sep) := by
  cases r with
  | nil => exact absurd rfl h
  | cons y r => rw [join_cons, join_cons]; simp [joinTail]
theorem pcs_ne (c : UInt8) (s : ByteArray) : (pcs c s).map (·.data.toList) ≠ [] := by
  intro h
  have := congrArg List.length h
  simp [pcs_len] at this
theorem join_pcs (c : UInt8) : ∀ (n : Nat) (s : ByteArray), s.size ≤ n → join ((pcs c s).map (·.data.toList)) [c] = s.data.toList := by
  intro n
  induction n with
  | zero =>
    intro s hs
    rw [pcs_miss c s (fun j h => by
      rw [List.getElem?_eq_none (by simp; omega)] at h; cases h)]
    simp [join_one]
  | succ n ih =>
    intro s hs
    rcases index_spec s.data.toList [c] with ⟨_, hno⟩ | ⟨i, _, hi, ho, hno⟩
    · rw [pcs_miss c s (fun j h => by
        have hj : j < s.data.toList.length := by
          rcases Nat.lt_or_ge j s.data.toList.length with h' | h'
          · exact h'
          · rw [List.getElem?_eq_none h'] at h; cases h
        have := hno j (Nat.le_of_lt hj)
        rw [occ_one, h] at this
        simp at this)]
      simp [join_one]
    · have hget : s.data.toList[i]? = some c := by rw [occ_one] at ho; simpa using ho
      have hlt : i < s.data.toList.length := by
        rcases Nat.lt_or_ge i s.data.toList.length with h' | h'
        · exact h'
        · rw [List.getElem?_eq_none h'] at hget; cases hget
      rw [pcs_hit c s i hget (fun j hj h => by
        have := hno j hj
        rw [occ_one, h] at this
        simp at this)]
      have hsz : s.size = s.data.toList.length := by simp
      rw [List.map_cons, join_step _ _ _ (pcs_ne c _), ih (s.extract (i + 1) s.size) (by rw [ByteArray.size_extract]; omega), extract_from_zero, extract_to_end]
      rw [List.getElem?_eq_getElem hlt] at hget
      injection hget with hget
      have e : s.data.toList.take i ++ c :: s.data.toList.drop (i + 1) = s.data.toList := by
        rw [← hget, List.getElem_cons_drop, List.take_append_drop]
      rw [List.singleton_append]
      exact e
end Go.Proofs.YtbnkanlebjpkfaaGreatDoor
namespace Go.Proofs.YtbnkanlebjpkfaaGreatDoor
open Go.RowKit
set_option maxRecDepth 100000 in
set_option maxHeartbeats 400000 in
theorem fmt_pos (n : Int) (w : World) (h0 : 0 < n) (h1 : n ≤ 9223372036854775807) :
    Calls Tryz.prog 29 #[.int .i64 n] w fun e w' => e = .returned (.string ⟨(Lib.itoa n).toArray⟩) ∧ Below w.heap.size w w' := by
  have hz : (n == 0) = false := by simp; omega
  have hlt : decide (n < 0) = false := by simp; omega
  have Hi := Lib.hid (show digs n.toNat = Lib.itoa n by rw [digs_pos (by omega), Lib.itoa, if_neg (by omega)])
  have hD : (digs n.toNat).length ≤ 9223372036854775807 := by have := digs_length n.toNat; omega
  go_enter Tryz.func29, Tryz.ntmps29
  go_wp2
  go_loopw [0, 4] (fun m out wr => ∃ (u : Nat) (l : List UInt8), m = .int .i64 u ∧ out = .string ⟨l.toArray⟩ ∧ u ≤ n ∧ digs u ++ l = digs n.toNat ∧ Below w.heap.size w wr) (fun m _ _ => (intOf m).toNat)
  case atStart => exact ⟨n.toNat, [], by rw [show ((n.toNat : Nat) : Int) = n by omega], rfl, by omega, by simp, Below.refl _ _⟩
  case round =>
    obtain ⟨u, l, rfl, rfl, hu, hl, hb⟩ := hrel
    by_cases hu0 : u = 0
    · subst hu0
      go_wp2
      go_ret
      exact ⟨by rw [← Hi.out, ← hl, digs_zero]; rfl, hb⟩
    · have hm : ((u : Int) != 0) = true := by simp; omega
      have hs := congrArg List.length (digs_step hu0)
      have hll := congrArg List.length hl
      simp only [List.length_append, List.length_cons, List.length_nil] at hs hll
      have hsz : 1 + l.length ≤ 9223372036854775807 := by omega
      have Hl := Lib.hid hl
      obtain ⟨x, hx⟩ : ∃ x : UInt8, x = UInt8.ofNat (48 + u % 10) := ⟨_, rfl⟩
      have hc := conv_one x (48 + (u : Int) % 10) (by rw [hx]; simp; omega) wr
      have Hx := Lib.hid hx
      clear hs hll hl hD hx
      go_wp2
      go_roundw
      case rel => exact ⟨u / 10, x :: l, by go_num, by rw [app_one], by omega, by rw [Hx.out, digs_next hu0]; exact Hl.out, hb.alloc (by have := hb.size; omega) _⟩
      case measure => simp [intOf]; omega
set_option maxRecDepth 100000 in
set_option maxHeartbeats 400000 in
theorem fmt_neg (n : Int) (w : World) (h0 : n < 0) (h1 : -9223372036854775808 ≤ n) :
    Calls Tryz.prog 29 #[.int .i64 n] w fun e w' => e = .returned (.string ⟨(Lib.itoa n).toArray⟩) ∧ Below w.heap.size w w' := by
  have hz : (n == 0) = false := by simp; omega
  have hlt : decide (n < 0) = true := by simp; omega
  have Hi := Lib.hid (show 45 :: digs n.natAbs = Lib.itoa n by rw [digs_pos (by omega), Lib.itoa, if_pos (by omega)])
  have hD : (digs n.natAbs).length + 1 ≤ 9223372036854775807 := by have := digs_length' n.natAbs; omega
  go_enter Tryz.func29, Tryz.ntmps29
  go_wp2
  go_loopw [0, 4, 5] (fun m out _ wr => ∃ (u : Nat) (l : List UInt8), m = .int .i64 (-(u : Int)) ∧ out = .string ⟨l.toArray⟩ ∧ u ≤ -n ∧ digs u ++ l = digs n.natAbs ∧ Below w.heap.size w wr) (fun m _ _ _ => (intOf m).natAbs)
  case atStart => exact ⟨n.natAbs, [], by rw [show (-(n.natAbs : Nat) : Int) = n by omega], rfl, by omega, by simp, Below.refl _ _⟩
  case round =>
    obtain ⟨u, l, rfl, rfl, hu, hl, hb⟩ := hrel
    by_cases hu0 : u = 0
    · subst hu0
      have hll := congrArg List.length hl
      rw [digs_zero, List.nil_append] at hll hl
      have hsz : 1 + l.length ≤ 9223372036854775807 := by omega
      have Hl := Lib.hid hl
      clear hll hl hD
      go_wp2
      go_ret
      exact ⟨by rw [← Hi.out, ← Hl.out, ← app_one]; rfl, hb⟩
    · have hm : (-(u : Int) != 0) = true := by simp; omega
      have hs := congrArg List.length (digs_step hu0)
      have hll := congrArg List.length hl
      simp only [List.length_append, List.length_cons, List.length_nil] at hs hll
      have hsz : 1 + l.length ≤ 9223372036854775807 := by omega
      have Hl := Lib.hid hl
      obtain ⟨x, hx⟩ : ∃ x : UInt8, x = UInt8.ofNat (48 + u % 10) := ⟨_, rfl⟩
      have hc := conv_one x (48 + ((u % 10 : Nat) : Int)) (by rw [hx]; simp; omega) wr
      have Hx := Lib.hid hx
      have ht := neg_tmod u
      have hq := neg_tdiv u
      obtain ⟨r, hr⟩ : ∃ r, r = u % 10 := ⟨_, rfl⟩
      obtain ⟨q, hqq⟩ : ∃ q, q = u / 10 := ⟨_, rfl⟩
      rw [← hr] at ht hc
      rw [← hqq] at hq
      have hr10 : r < 10 := by omega
      have hqu : q < u := by omega
      have Hq := Lib.hid hqq
      have Hr := Lib.hid hr
      clear hs hll hl hD hx hr hqq
      by_cases hr0 : r = 0
      · subst hr0
        simp only [Int.natCast_zero, Int.neg_zero, Int.add_zero] at ht hc
        go_wp2
        go_roundw
        case rel => exact ⟨q, x :: l, by go_num, by rw [app_one], by omega, by rw [Hx.out, Hq.out, digs_next hu0]; exact Hl.out, hb.alloc (by have := hb.size; omega) _⟩
        case measure => simp [intOf]; omega
      · have hrn : decide (-(r : Int) < 0) = true := by simp; omega
        go_wp2
        go_roundw
        case rel => exact ⟨q, x :: l, by go_num, by rw [app_one], by omega, by rw [Hx.out, Hq.out, digs_next hu0]; exact Hl.out, hb.alloc (by have := hb.size; omega) _⟩
        case measure => simp [intOf]; omega
theorem fmt_zero (w : World) :
    Calls Tryz.prog 29 #[.int .i64 0] w fun e w' => e = .returned (.string ⟨(Lib.itoa 0).toArray⟩) ∧ Below w.heap.size w w' := by
  have H := Lib.hid (show Lib.itoa 0 = [48] by rw [Lib.itoa, if_neg (by omega), Lib.decDigits]; rfl)
  go_enter Tryz.func29, Tryz.ntmps29
  go_wp2
  go_ret
  exact ⟨by rw [H.out]; rfl, Below.refl _ _⟩
/-- spec.FormatInt at every int. -/
theorem fmt_any (n : Int) (w : World) (h0 : -9223372036854775808 ≤ n) (h1 : n ≤ 9223372036854775807) :
    Calls Tryz.prog 29 #[.int .i64 n] w fun e w' => e = .returned (.string ⟨(Lib.itoa n).toArray⟩) ∧ Below w.heap.size w w' := by
  rcases Int.lt_trichotomy n 0 with h | h | h
  · exact fmt_neg n w h h0
  · subst h; exact fmt_zero w
  · exact fmt_pos n w h h1
end Go.Proofs.YtbnkanlebjpkfaaGreatDoor
namespace Go.Proofs.YtbnkanlebjpkfaaGreatDoor
open Go.RowKit Go.Lib
/-- The table as a row lists it. -/
def strData {H : Type} (zs : List (List UInt8)) : DataW H := .agg (zs.map fun z => .lit (.string z))
/-- The variable holds just these strings. -/
def StrsIs (P : Program) (w : World) (name : String) (zs : List (List UInt8)) : Prop := w.var? P name = some (zs.map fun z => Value.string ⟨z.toArray⟩).toArray
theorem strs_of_tab {H : Type} {enc : TypeId × Value → H} {P : Program} {w : World} {base : Nat} {sp : Nat → Bool} {held : Bool} {fuel : Nat} {t e : TypeId} {n : Nat} {cs : List Value} {zs : List (List UInt8)} {p : List MemPlace}
    (ht : P.underlying t = some (.array n e)) (he : P.underlying e = some .string) (hce : P.cellsOf e = 1) (hct : P.cellsOf t = n)
    (h : DataW.trod enc P w base sp held fuel t cs = some (strData zs, p)) : cs = zs.map fun z => Value.string ⟨z.toArray⟩ := by
  cases fuel with
  | zero => simp [DataW.trod] at h
  | succ fuel =>
    simp only [DataW.trod, ht, hce, hct, Nat.mul_one] at h
    split at h
    · rename_i hl
      obtain ⟨xs, hm, hx⟩ := Option.map_eq_some_iff.1 h
      have hxs : xs.map (·.1) = zs.map fun z => (DataW.lit (.string z) : DataW H) := by
        have := congrArg Prod.fst hx
        simpa [strData] using this
      have hxl : xs.length = n := by simpa using mapM_length hm
      have hzl : zs.length = n := by
        have := congrArg List.length hxs
        simp at this
        omega
      apply List.ext_getElem?
      intro i
      by_cases hi : i < n
      · obtain ⟨b, hb, hf⟩ := mapM_at hm i i (by simp [hi])
        obtain ⟨s, hc, rfl, _⟩ := DataW.trod_string he hf
        have h1 : cs[i]? = some (.string s) := by
          have := congrArg (·[0]?) hc
          simpa [List.getElem?_take, List.getElem?_drop] using this
        have h2 : (xs.map (·.1))[i]? = some (DataW.lit (.string s.data.toList) : DataW H) := by simp [hb]
        rw [hxs] at h2
        simp only [List.getElem?_map, Option.map_eq_some_iff, DataW.lit.injEq, Lit.string.injEq] at h2
        obtain ⟨z', hz', hs⟩ := h2
        subst hs
        simp [h1, hz']
      · rw [List.getElem?_eq_none (by omega), List.getElem?_eq_none (by simp; omega)]
    · cases h
theorem strsIs_of_head {P : Program} {W : World} {name : String} {zs : List (List UInt8)} {rest : List (String × DataW Unit)} {g : Nat} {t e : TypeId} {n : Nat}
    (hg : P.globalNamed name = some g) (hty : (P.globals[g]?).map (·.type) = some t) (ht : P.underlying t = some (.array n e)) (he : P.underlying e = some .string) (hce : P.cellsOf e = 1) (hct : P.cellsOf t = n)
    (h : laidMet P ((name, strData zs) :: rest) W) : StrsIs P W name zs := by
  obtain ⟨ps, ⟨g', t', cs, fuel, p, q, hg', ht', hvar, hd, _, _⟩, _⟩ := h
  obtain rfl := Option.some.inj (hg.symm.trans hg')
  obtain rfl := Option.some.inj (hty.symm.trans ht')
  unfold StrsIs
  rw [hvar, ← strs_of_tab ht he hce hct hd]
theorem StrsIs.cell {P : Program} {W : World} {name : String} {zs : List (List UInt8)} {g : Nat} (h : StrsIs P W name zs) (hg : P.globalNamed name = some g) (i : Nat) {z : List UInt8} (hi : zs[i]? = some z) :
    W.cell? ⟨g, i, none⟩ = some (.string ⟨z.toArray⟩) := by
  have := World.var?_cell hg h i
  simpa [hi] using this
theorem StrsIs.below {P : Program} {w w' : World} {name : String} {zs : List (List UInt8)} {g : Nat} (h : StrsIs P w name zs) (hg : P.globalNamed name = some g) (hb : Below w.heap.size w w') : StrsIs P w' name zs :=
  Joins.var_stays hg h hb (Nat.le_refl _)
end Go.Proofs.YtbnkanlebjpkfaaGreatDoor
