/- B11: several of our texts in one: TxP SpecParse TxS PhM. -/
import Derived.Test.YtbnkanlebjpkfaaDoorB02
import Derived.Test.YtbnkanlebjpkfaaDoorB06
import Derived.Test.YtbnkanlebjpkfaaDoorDigits
import Derived.Test.YtbnkanlebjpkfaaDoorRead
import Derived.Test.YtbnkanlebjpkfaaDoorB09
import Derived.Laws.Concat
import Derived.Test.YtbnkanlebjpkfaaDoorSgM
namespace Go.Proofs.YtbnkanlebjpkfaaDoor
open Go.Lib
/-- Bytes as a string. -/
def toB (l : List UInt8) : ByteArray := ⟨l.toArray⟩
theorem toB_data (l : List UInt8) : (toB l).data.toList = l := rfl
theorem toB_size (l : List UInt8) : (toB l).size = l.length := by simp [toB, ByteArray.size]
theorem toB_of (s : ByteArray) : toB s.data.toList = s := by apply ByteArray.ext; simp [toB]
theorem toB_inj {l m : List UInt8} (h : toB l = toB m) : l = m := by
  have := congrArg (fun s : ByteArray => s.data.toList) h
  simpa [toB_data] using this
/-- A numeral holds digits and the sign. -/
def Num (l : List UInt8) : Prop := ∀ c ∈ l, c = 45 ∨ (48 ≤ c.toNat ∧ c.toNat ≤ 57)
theorem itoa_num (n : Int) : Num (itoa n) := by
  unfold itoa
  split
  · intro c hc
    rcases List.mem_cons.1 hc with rfl | hc
    · exact .inl rfl
    · exact .inr (decDigits_digs _ c hc)
  · intro c hc; exact .inr (decDigits_digs _ c hc)
theorem itoa_inj64 {n m : Int} (h : itoa n = itoa m) (a0 : -9223372036854775808 ≤ n) (a1 : n ≤ 9223372036854775807) (b0 : -9223372036854775808 ≤ m) (b1 : m ≤ 9223372036854775807) : n = m := by
  have h1 := atoiAll_itoa n a0 a1
  rw [h, atoiAll_itoa m b0 b1] at h1
  injection h1 with h1
  exact h1.symm
theorem pcs_one {c : UInt8} {l : List UInt8} (h : c ∉ l) : pcs c (toB l) = [toB l] :=
  pcs_miss c _ (fun j hj => h (by rw [toB_data] at hj; exact List.mem_of_getElem? hj))
theorem pcs_app {c : UInt8} {l r : List UInt8} (h : c ∉ l) : pcs c (toB (l ++ c :: r)) = toB l :: pcs c (toB r) := by
  rw [pcs_hit c (toB (l ++ c :: r)) l.length (by rw [toB_data]; simp) (fun j hj e => by
    rw [toB_data, List.getElem?_append_left hj] at e
    exact h (List.mem_of_getElem? e))]
  congr 1
  · apply ByteArray.ext; simp [toB]
  · congr 1
    apply ByteArray.ext
    simp [toB, ByteArray.size]
    rw [List.take_of_length_le (by omega)]
open Classical in
open Classical in
/-- A value that was read from a piece: if the piece is a numeral within the limits, it is that number. -/
def Got (p : ByteArray) (lo hi v : Int) : Prop := ∀ n : Int, lo ≤ n → n ≤ hi → itoa n = p.data.toList → v = n
end Go.Proofs.YtbnkanlebjpkfaaDoor
namespace Go.Proofs.YtbnkanlebjpkfaaDoor
open Go.RowKit Go.Lib
theorem itoa_inj {n m : Int} (h : itoa n = itoa m) (a0 : -999999999999 ≤ n) (a1 : n ≤ 999999999999) (b0 : -999999999999 ≤ m) (b1 : m ≤ 999999999999) : n = m := by
  have h1 := atoiAll_itoa n (by omega) (by omega)
  rw [h, atoiAll_itoa m (by omega) (by omega)] at h1
  injection h1 with h1
  exact h1.symm
theorem lim6 (l : List UInt8) (h : Digs l) (hl : l.length ≤ 6) : (dval l : Int) ≤ 999999 := by
  have := dval_lt l.length l rfl h
  have h2 : 10 ^ l.length ≤ 10 ^ 6 := Nat.pow_le_pow_right (by omega) hl
  omega
theorem spn_any (s : ByteArray) (hs : s.size ≤ 9223372036854775800) (w : World) :
    Calls Tryd.prog 57 #[.string s, .int .i64 6] w fun e w' => ReadOut 999999 s.data.toList e ∧ Below w.heap.size w w' :=
  read_any s 6 999999 lim6 (by intro n a b; omega) (by omega) (by omega) hs w
set_option maxRecDepth 100000 in
set_option maxHeartbeats 400000 in
theorem spn_yes (s : ByteArray) (n : Int) (hs : s.size ≤ 9223372036854775800) (hn : itoa n = s.data.toList) (n0 : 0 ≤ n) (n1 : n ≤ 999999) (w : World) :
    Calls Tryd.prog 36 #[.string s] w fun e w' => e = .returned (.tuple #[.int .i64 n, .bool true]) ∧ Below w.heap.size w w' := by
  have Hn := Lib.hid hn
  clear hn
  go_enter Tryd.func36, Tryd.ntmps36
  go_wp2_with fail
  refine (spn_any s hs _).mono ?_
  rintro e w1 ⟨hr, hb1⟩
  rcases hr with ⟨m, m0, m1, hm, rfl⟩ | ⟨hno, rfl⟩
  · obtain rfl : m = n := itoa_inj (hm.trans Hn.out.symm) (by omega) (by omega) (by omega) (by omega)
    clear hm
    go_wp2_with fail
    go_ret2
    exact ⟨rfl, hb1⟩
  · exact absurd Hn.out (hno n (by omega) n1)
set_option maxRecDepth 100000 in
set_option maxHeartbeats 400000 in
theorem spn_no (s : ByteArray) (hs : s.size ≤ 9223372036854775800) (hn : ∀ n : Int, 0 ≤ n → n ≤ 999999 → itoa n ≠ s.data.toList) (w : World) :
    Calls Tryd.prog 36 #[.string s] w fun e w' => e = .returned (.tuple #[.int .i64 0, .bool false]) ∧ Below w.heap.size w w' := by
  have Hn := Lib.hid hn
  clear hn
  go_enter Tryd.func36, Tryd.ntmps36
  go_wp2_with fail
  refine (spn_any s hs _).mono ?_
  rintro e w1 ⟨hr, hb1⟩
  rcases hr with ⟨m, m0, m1, hm, rfl⟩ | ⟨hno, rfl⟩
  · have hneg : m < 0 := by
      rcases (show m < 0 ∨ 0 ≤ m by omega) with h | h
      · exact h
      · exact absurd hm (Hn.out m h m1)
    clear hm
    go_wp2_with fail
    go_ret2
    exact ⟨rfl, hb1⟩
  · clear hno
    go_wp2_with fail
    go_ret2
    exact ⟨rfl, hb1⟩
end Go.Proofs.YtbnkanlebjpkfaaDoor
namespace Go.Proofs.YtbnkanlebjpkfaaDoor
open Go.RowKit Go.Lib
theorem sfmt (n : Int) (w : World) (h0 : -9223372036854775808 ≤ n) (h1 : n ≤ 9223372036854775807) :
    Calls Tryd.prog 28 #[.int .i64 n] w fun e w' => e = .returned (.string (toB (itoa n))) ∧ Below w.heap.size w w' := fmt_any n w h0 h1
theorem spnum (s : ByteArray) (hs : s.size ≤ 1048576) (w : World) :
    Calls Tryd.prog 36 #[.string s] w fun e w' => (∃ (v : Int) (b : Bool), e = .returned (.tuple #[.int .i64 v, .bool b]) ∧ Got s 0 999999 v ∧ 0 ≤ v ∧ v ≤ 999999) ∧ Below w.heap.size w w' := by
  by_cases h : ∃ n : Int, 0 ≤ n ∧ n ≤ 999999 ∧ itoa n = s.data.toList
  · obtain ⟨n, n0, n1, hn⟩ := h
    refine (spn_yes s n (by omega) hn n0 n1 w).mono ?_
    rintro e w1 ⟨rfl, hb⟩
    exact ⟨⟨n, true, rfl, fun m m0 m1 hm => itoa_inj (hn.trans hm.symm) (by omega) (by omega) (by omega) (by omega), n0, n1⟩, hb⟩
  · refine (spn_no s (by omega) (fun n n0 n1 hn => h ⟨n, n0, n1, hn⟩) w).mono ?_
    rintro e w1 ⟨rfl, hb⟩
    exact ⟨⟨0, false, rfl, fun m m0 m1 hm => absurd ⟨m, m0, m1, hm⟩ h, by omega, by omega⟩, hb⟩
/-- A row of strings that a call gave. -/
theorem own_row {w w' : World} {v : Value} {l : List ByteArray} (h : w'.ownsRow w.heap.size 9 1 v l.length (l.map Value.string)) (hl : 0 < l.length) :
    ∃ g cap, v = .slice (some ⟨g, 0, none⟩) l.length cap ∧ w.heap.size ≤ g ∧ StrRow w' g l.length (fun j => l.getD j ByteArray.empty) := by
  rcases h.2 with ⟨_, h2⟩ | ⟨g, cap, cur, hv, hb, hg, _, _, hs, ht⟩
  · omega
  · refine ⟨g, cap, hv, hb, cur, hg, fun j hj => ?_⟩
    have e := congrArg (fun x : List Value => x[j]?) ht
    simp only [List.getElem?_take, Nat.mul_one, if_pos hj] at e
    rw [← Array.getElem?_toList, e, List.getElem?_map]
    show Option.map Value.string l[j]? = some (Value.string (l.getD j ByteArray.empty))
    rw [List.getD_eq_getElem?_getD, List.getElem?_eq_getElem hj]
    rfl
theorem ssplit (s : ByteArray) (c : UInt8) (w : World) (hs : s.size ≤ 1048576) :
    Calls Tryd.prog 34 #[.string s, .int .u8 c.toNat] w fun e w' => (∃ g cap, e = .returned (.slice (some ⟨g, 0, none⟩) (pcs c s).length cap) ∧ w.heap.size ≤ g ∧ StrRow w' g (pcs c s).length (fun j => (pcs c s).getD j ByteArray.empty)) ∧ Below w.heap.size w w' := by
  refine (split_any s c w hs).mono ?_
  rintro e w1 ⟨⟨v, rfl, ho⟩, hb⟩
  obtain ⟨g, cap, rfl, hg, hr⟩ := own_row ho (by rw [pcs_len]; omega)
  exact ⟨⟨g, cap, rfl, hg, hr⟩, hb⟩
end Go.Proofs.YtbnkanlebjpkfaaDoor
namespace Go.Proofs.YtbnkanlebjpkfaaDoor
instance : DecidableEq Zw := fun x y => decidable_of_iff (x.a = y.a ∧ x.b = y.b ∧ x.c = y.c ∧ x.d = y.d) ⟨fun ⟨h1, h2, h3, h4⟩ => by cases x; cases y; simp_all, fun h => by subst h; exact ⟨rfl, rfl, rfl, rfl⟩⟩
end Go.Proofs.YtbnkanlebjpkfaaDoor
