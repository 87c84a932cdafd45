/- spec.l1Read reads just the numerals of few digits. -/
import Derived.Test.YtbnkanlebjpkfaaDoorB02
import Derived.Test.YtbnkanlebjpkfaaDoorDigits
import Derived.WalkKit
import Derived.WalkSpells
import Derived.WalkLawsBesides
import Derived.Lib.Hide
namespace Go.Proofs.YtbnkanlebjpkfaaDoor
open Go.RowKit Go.Lib
/-- How a reader of numerals from -B to B ends. -/
def ReadOut (B : Int) (l : List UInt8) (e : Ending) : Prop := (∃ n, -B ≤ n ∧ n ≤ B ∧ itoa n = l ∧ e = .returned (.tuple #[.int .i64 n, .bool true])) ∨ ((∀ n, -B ≤ n → n ≤ B → itoa n ≠ l) ∧ e = .returned (.tuple #[.int .i64 0, .bool false]))
theorem take_next (s : ByteArray) (k : Nat) (h : k < s.size) : s.data.toList.take (k + 1) = s.data.toList.take k ++ [s[k]] := by
  rw [List.take_succ_eq_append_getElem (by simpa using h)]; rfl
theorem ne45 {c : UInt8} (h : some c ≠ some 45) : ((c.toNat : Int) == 45) = false := by
  simp
  intro x
  apply h
  have e : (45 : UInt8).toNat = 45 := rfl
  rw [show c = 45 from UInt8.toNat_inj.1 (by omega)]
theorem dval_small (l : List UInt8) (h : Digs l) (hl : l.length ≤ 12) : dval l < 1000000000000 := by
  have := dval_lt l.length l rfl h
  have h2 : 10 ^ l.length ≤ 10 ^ 12 := Nat.pow_le_pow_right (by omega) hl
  omega
set_option maxRecDepth 100000 in
set_option maxHeartbeats 400000 in
theorem read_minus (t : List UInt8) (T : ByteArray) (hT : T.data.toList = t) (most : Nat) (B : Int) (hB : ∀ l, Digs l → l.length ≤ most → (dval l : Int) ≤ B) (hm : most ≤ 12) (w : World) (h1 : 1 ≤ T.size) (h2 : T.size ≤ most) :
    Calls Tryd.prog 57 #[.string ⟨(45 :: t).toArray⟩, .int .i64 most] w fun e w' => ReadOut B (45 :: t) e ∧ Below w.heap.size w w' := by
  have hx : (ByteArray.mk (45 :: t).toArray).extract 1 (t.length + 1) = T := by
    apply ByteArray.ext; subst hT; simp
    rw [List.take_of_length_le (by simp)]
  have hts : t.length = T.size := by subst hT; simp
  have hb0 : ∀ h, (((ByteArray.mk (45 :: t).toArray)[0]'h).toNat : Int) = 45 := fun _ => rfl
  have hlen : (t.length : Int) ≤ 12 := by omega
  have HB := Lib.hid hB
  have HT := Lib.hid hT
  have HS := Lib.hid hts
  clear hT hts hB
  have hc1 : decide ((T.size : Int) < 1) = false := by simp; omega
  have hc2 : decide (most < T.size) = false := by simp; omega
  go_enter Tryd.func57, Tryd.ntmps57
  go_wp2_with fail
  go_loopw [8, 9] (fun n i wr => ∃ k : Nat, k ≤ T.size ∧ i = .int .i64 k ∧ n = .int .i64 (dval (T.data.toList.take k)) ∧ Digs (T.data.toList.take k) ∧ wr = w) (fun _ i _ => T.size - (intOf i).toNat)
  case atStart => exact ⟨0, Nat.zero_le _, rfl, rfl, Digs_nil, rfl⟩
  case round =>
    obtain ⟨k, hk, rfl, rfl, hd, rfl⟩ := hrel
    by_cases hlt : k < T.size
    · have hts := take_next T k hlt
      have hv := dval_small _ hd (by simp; omega)
      obtain ⟨v, hv2⟩ : ∃ v, v = dval (T.data.toList.take k) := ⟨_, rfl⟩
      rw [← hv2] at hv ⊢
      by_cases h48 : T[k].toNat < 48
      · have Hd := Lib.hid hd
        have Hn := Lib.hid hts
        clear hd hts
        go_wp2_with fail
        go_ret2
        refine ⟨Or.inr ⟨fun m m0 m1 e => ?_, rfl⟩, Below.refl _ _⟩
        have hD := (itoa_cut (Or.inl ⟨rfl, rfl⟩) e).2.1
        have := hD T[k] (by rw [← HT.out]; simp [ByteArray.getElem_eq_getElem_data])
        omega
      · by_cases h57 : 57 < T[k].toNat
        · have Hd := Lib.hid hd
          have Hn := Lib.hid hts
          clear hd hts
          go_wp2_with fail
          go_ret2
          refine ⟨Or.inr ⟨fun m m0 m1 e => ?_, rfl⟩, Below.refl _ _⟩
          have hD := (itoa_cut (Or.inl ⟨rfl, rfl⟩) e).2.1
          have := hD T[k] (by rw [← HT.out]; simp [ByteArray.getElem_eq_getElem_data])
          omega
        · have Hd := Lib.hid hd
          have Hn := Lib.hid hts
          have Hv := Lib.hid hv2
          clear hd hts hv2
          go_wp2_with fail
          go_roundw
          case rel => exact ⟨k + 1, by omega, by go_num, by rw [Hn.out, dval_snoc, ← Hv.out]; go_num, by rw [Hn.out]; exact Digs_snoc.2 ⟨Hd.out, by omega, by omega⟩, by first | rfl | trivial⟩
          case measure => simp [intOf]; omega
    · obtain rfl : k = T.size := by omega
      have hall : T.data.toList.take T.size = t := by rw [List.take_of_length_le (by simp)]; exact HT.out
      rw [hall] at hd ⊢
      have hv := dval_small _ hd (by omega)
      obtain ⟨v, hv2⟩ : ∃ v, v = dval t := ⟨_, rfl⟩
      rw [← hv2] at hv ⊢
      have Hd := Lib.hid hd
      have Hv := Lib.hid hv2
      clear hd hall hv2
      go_wp2_with fail
      refine (fmt_any _ _ (by omega) (by omega)).mono ?_
      rintro e w1 ⟨rfl, hb1⟩
      by_cases he : Lib.itoa (-(v : Int)) = 45 :: t
      · have hne : (Lib.itoa (-(v : Int)) == 45 :: t) = true := by simpa using he
        have He := Lib.hid he
        clear he
        go_wp2_with fail
        go_ret2
        have hbd := HB.out t Hd.out (by have := HS.out; omega)
        rw [← Hv.out] at hbd
        exact ⟨Or.inl ⟨-(v : Int), by omega, by omega, He.out, rfl⟩, hb1⟩
      · have hne : (Lib.itoa (-(v : Int)) == 45 :: t) = false := by simpa using he
        have He := Lib.hid he
        clear he
        go_wp2_with fail
        go_ret2
        refine ⟨Or.inr ⟨fun m m0 m1 e => ?_, rfl⟩, hb1⟩
        have hm := (itoa_cut (Or.inl ⟨rfl, rfl⟩) e).2.2.1
        rw [sval_true, ← Hv.out] at hm
        exact He.out (by rw [← hm]; exact e)
set_option maxRecDepth 100000 in
set_option maxHeartbeats 400000 in
theorem read_plain (t : List UInt8) (T : ByteArray) (hT : T.data.toList = t) (h45 : t.head? ≠ some 45) (most : Nat) (B : Int) (hB : ∀ l, Digs l → l.length ≤ most → (dval l : Int) ≤ B) (hm : most ≤ 12) (w : World) (h1 : 1 ≤ T.size) (h2 : T.size ≤ most) :
    Calls Tryd.prog 57 #[.string T, .int .i64 most] w fun e w' => ReadOut B t e ∧ Below w.heap.size w w' := by
  have hts : t.length = T.size := by subst hT; simp
  have hb0 : ∀ h, (((T[0]'h).toNat : Int) == 45) = false := fun h => by
    have e : t.head? = some (T[0]'h) := by subst hT; rw [List.head?_eq_getElem?]; simp [ByteArray.getElem_eq_getElem_data]
    rw [e] at h45
    exact ne45 h45
  have hlen : (t.length : Int) ≤ 12 := by omega
  have HB := Lib.hid hB
  have H45 := Lib.hid h45
  have hTl : T.toList = t := by rw [ByteArray.toList_eq]; exact hT
  have HT := Lib.hid hT
  have HS := Lib.hid hts
  clear hT hts hB h45
  have hc1 : decide ((T.size : Int) < 1) = false := by simp; omega
  have hc2 : decide (most < T.size) = false := by simp; omega
  go_enter Tryd.func57, Tryd.ntmps57
  go_wp2_with fail
  go_loopw [8, 9] (fun n i wr => ∃ k : Nat, k ≤ T.size ∧ i = .int .i64 k ∧ n = .int .i64 (dval (T.data.toList.take k)) ∧ Digs (T.data.toList.take k) ∧ wr = w) (fun _ i _ => T.size - (intOf i).toNat)
  case atStart => exact ⟨0, Nat.zero_le _, rfl, rfl, Digs_nil, rfl⟩
  case round =>
    obtain ⟨k, hk, rfl, rfl, hd, rfl⟩ := hrel
    by_cases hlt : k < T.size
    · have hts := take_next T k hlt
      have hv := dval_small _ hd (by simp; omega)
      obtain ⟨v, hv2⟩ : ∃ v, v = dval (T.data.toList.take k) := ⟨_, rfl⟩
      rw [← hv2] at hv ⊢
      by_cases h48 : T[k].toNat < 48
      · have Hd := Lib.hid hd
        have Hn := Lib.hid hts
        clear hd hts
        go_wp2_with fail
        go_ret2
        refine ⟨Or.inr ⟨fun m m0 m1 e => ?_, rfl⟩, Below.refl _ _⟩
        have hD := (itoa_cut (Or.inr ⟨rfl, rfl, H45.out⟩) e).2.1
        have := hD T[k] (by rw [← HT.out]; simp [ByteArray.getElem_eq_getElem_data])
        omega
      · by_cases h57 : 57 < T[k].toNat
        · have Hd := Lib.hid hd
          have Hn := Lib.hid hts
          clear hd hts
          go_wp2_with fail
          go_ret2
          refine ⟨Or.inr ⟨fun m m0 m1 e => ?_, rfl⟩, Below.refl _ _⟩
          have hD := (itoa_cut (Or.inr ⟨rfl, rfl, H45.out⟩) e).2.1
          have := hD T[k] (by rw [← HT.out]; simp [ByteArray.getElem_eq_getElem_data])
          omega
        · have Hd := Lib.hid hd
          have Hn := Lib.hid hts
          have Hv := Lib.hid hv2
          clear hd hts hv2
          go_wp2_with fail
          go_roundw
          case rel => exact ⟨k + 1, by omega, by go_num, by rw [Hn.out, dval_snoc, ← Hv.out]; go_num, by rw [Hn.out]; exact Digs_snoc.2 ⟨Hd.out, by omega, by omega⟩, by first | rfl | trivial⟩
          case measure => simp [intOf]; omega
    · obtain rfl : k = T.size := by omega
      have hall : T.data.toList.take T.size = t := by rw [List.take_of_length_le (by simp)]; exact HT.out
      rw [hall] at hd ⊢
      have hv := dval_small _ hd (by omega)
      obtain ⟨v, hv2⟩ : ∃ v, v = dval t := ⟨_, rfl⟩
      rw [← hv2] at hv ⊢
      have Hd := Lib.hid hd
      have Hv := Lib.hid hv2
      clear hd hall hv2
      go_wp2_with fail
      refine (fmt_any _ _ (by omega) (by omega)).mono ?_
      rintro e w1 ⟨rfl, hb1⟩
      by_cases he : Lib.itoa ((v : Int)) = t
      · have hne : (Lib.itoa ((v : Int)) == t) = true := by simpa using he
        have He := Lib.hid he
        clear he
        go_wp2_with fail
        go_ret2
        have hbd := HB.out t Hd.out (by have := HS.out; omega)
        rw [← Hv.out] at hbd
        exact ⟨Or.inl ⟨(v : Int), by omega, by omega, He.out, rfl⟩, hb1⟩
      · have hne : (Lib.itoa ((v : Int)) == t) = false := by simpa using he
        have He := Lib.hid he
        clear he
        go_wp2_with fail
        go_ret2
        refine ⟨Or.inr ⟨fun m m0 m1 e => ?_, rfl⟩, hb1⟩
        have hm := (itoa_cut (Or.inr ⟨rfl, rfl, H45.out⟩) e).2.2.1
        rw [sval_false, ← Hv.out] at hm
        exact He.out (by rw [← hm]; exact e)
set_option maxRecDepth 100000 in
set_option maxHeartbeats 400000 in
theorem read_minus_no (t : List UInt8) (T : ByteArray) (hT : T.data.toList = t) (most : Nat) (w : World) (h : T.size < 1 ∨ most < T.size) (hm : t.length ≤ 9223372036854775800) :
    Calls Tryd.prog 57 #[.string ⟨(45 :: t).toArray⟩, .int .i64 most] w fun e w' => e = .returned (.tuple #[.int .i64 0, .bool false]) ∧ w = w' := by
  have hx : (ByteArray.mk (45 :: t).toArray).extract 1 (t.length + 1) = T := by
    apply ByteArray.ext; subst hT; simp
    rw [List.take_of_length_le (by simp)]
  have hts : t.length = T.size := by subst hT; simp
  have hb0 : ∀ h, (((ByteArray.mk (45 :: t).toArray)[0]'h).toNat : Int) = 45 := fun _ => rfl
  have HT := Lib.hid hT
  have hts' : (T.size : Int) ≤ 9223372036854775800 := by omega
  clear hT hts
  rcases h with h | h
  · have hc1 : decide ((T.size : Int) < 1) = true := by simp; omega
    go_enter Tryd.func57, Tryd.ntmps57
    go_wp2_with fail
    go_ret2
    exact ⟨rfl, rfl⟩
  · by_cases h1 : T.size < 1
    · have hc1 : decide ((T.size : Int) < 1) = true := by simp; omega
      go_enter Tryd.func57, Tryd.ntmps57
      go_wp2_with fail
      go_ret2
      exact ⟨rfl, rfl⟩
    · have hc1 : decide ((T.size : Int) < 1) = false := by simp; omega
      have hc2 : decide (most < T.size) = true := by simp; omega
      go_enter Tryd.func57, Tryd.ntmps57
      go_wp2_with fail
      go_ret2
      exact ⟨rfl, rfl⟩
set_option maxRecDepth 100000 in
set_option maxHeartbeats 400000 in
theorem read_plain_no (T : ByteArray) (h45 : T.data.toList.head? ≠ some 45) (most : Nat) (w : World) (h : T.size < 1 ∨ most < T.size) (hm : T.size ≤ 9223372036854775800) :
    Calls Tryd.prog 57 #[.string T, .int .i64 most] w fun e w' => e = .returned (.tuple #[.int .i64 0, .bool false]) ∧ w = w' := by
  have hb0 : ∀ h, (((T[0]'h).toNat : Int) == 45) = false := fun h => by
    have e : T.data.toList.head? = some (T[0]'h) := by rw [List.head?_eq_getElem?]; simp [ByteArray.getElem_eq_getElem_data]
    rw [e] at h45
    exact ne45 h45
  clear h45
  by_cases h1 : T.size < 1
  · have hc1 : decide ((T.size : Int) < 1) = true := by simp; omega
    clear h
    go_enter Tryd.func57, Tryd.ntmps57
    go_wp2_with fail
    go_ret2
    exact ⟨rfl, rfl⟩
  · have hc1 : decide ((T.size : Int) < 1) = false := by simp; omega
    have hc2 : decide (most < T.size) = true := by simp; omega
    clear h
    go_enter Tryd.func57, Tryd.ntmps57
    go_wp2_with fail
    go_ret2
    exact ⟨rfl, rfl⟩
/-- spec.l1Read at every string. -/
theorem read_any (s : ByteArray) (most : Nat) (B : Int) (hB : ∀ l, Digs l → l.length ≤ most → (dval l : Int) ≤ B) (hN : ∀ n : Int, -B ≤ n → n ≤ B → n.natAbs < 10 ^ most) (h1 : 1 ≤ most) (hm : most ≤ 12) (hs : s.size ≤ 9223372036854775800) (w : World) :
    Calls Tryd.prog 57 #[.string s, .int .i64 most] w fun e w' => ReadOut B s.data.toList e ∧ Below w.heap.size w w' := by
  obtain ⟨k, rfl⟩ : ∃ k, most = k + 1 := ⟨most - 1, by omega⟩
  by_cases h45 : s.data.toList.head? = some 45
  · obtain ⟨t, ht⟩ : ∃ t, s.data.toList = 45 :: t := by
      cases h : s.data.toList with
      | nil => rw [h] at h45; cases h45
      | cons c r => rw [h] at h45; simp at h45; subst h45; exact ⟨r, rfl⟩
    have e : s = ⟨(45 :: t).toArray⟩ := by rw [← ht]
    have hl : s.size = t.length + 1 := by rw [e]; simp [ByteArray.size]
    have eT : (ByteArray.mk t.toArray).data.toList = t := rfl
    have sT : (ByteArray.mk t.toArray).size = t.length := rfl
    rw [ht, e]
    by_cases hb : 1 ≤ t.length ∧ t.length ≤ k + 1
    · exact read_minus t ⟨t.toArray⟩ rfl (k + 1) B hB hm w (by omega) (by omega)
    · refine (read_minus_no t ⟨t.toArray⟩ rfl (k + 1) w (by omega) (by omega)).mono ?_
      rintro _ _ ⟨rfl, rfl⟩
      exact ⟨Or.inr ⟨fun n n0 n1 en => hb (itoa_cut_len (Or.inl ⟨rfl, rfl⟩) en (hN n n0 n1)), rfl⟩, Below.refl _ _⟩
  · have hl : s.data.toList.length = s.size := by simp
    by_cases hb : 1 ≤ s.size ∧ s.size ≤ k + 1
    · exact read_plain _ s rfl h45 (k + 1) B hB hm w hb.1 hb.2
    · refine (read_plain_no s h45 (k + 1) w (by omega) (by omega)).mono ?_
      rintro _ _ ⟨rfl, rfl⟩
      exact ⟨Or.inr ⟨fun n n0 n1 en => hb (by have := itoa_cut_len (Or.inr ⟨rfl, rfl, h45⟩) en (hN n n0 n1); omega), rfl⟩, Below.refl _ _⟩
end Go.Proofs.YtbnkanlebjpkfaaDoor
