/- spec.ParseNumber and spec.ParseInt. -/
import Derived.Test.YtlbgkdkgembkkaaDoorRead
namespace Go.Proofs.YtlbgkdkgembkkaaDoor
open Go.RowKit Go.Lib
theorem itoa_inj {n m : Int} (h : itoa n = itoa m) (a0 : -999999999999 ≤ n) (a1 : n ≤ 999999999999) (b0 : -999999999999 ≤ m) (b1 : m ≤ 999999999999) : n = m := by
  have h1 := atoiAll_itoa n (by omega) (by omega)
  rw [h, atoiAll_itoa m (by omega) (by omega)] at h1
  injection h1 with h1
  exact h1.symm
theorem lim6 (l : List UInt8) (h : Digs l) (hl : l.length ≤ 6) : (dval l : Int) ≤ 999999 := by
  have := dval_lt l.length l rfl h
  have h2 : 10 ^ l.length ≤ 10 ^ 6 := Nat.pow_le_pow_right (by omega) hl
  omega
theorem lim12 (l : List UInt8) (h : Digs l) (hl : l.length ≤ 12) : (dval l : Int) ≤ 999999999999 := by
  have := dval_lt l.length l rfl h
  have h2 : 10 ^ l.length ≤ 10 ^ 12 := Nat.pow_le_pow_right (by omega) hl
  omega
theorem spi_any (s : ByteArray) (hs : s.size ≤ 9223372036854775800) (w : World) :
    Calls Tryd.prog 33 #[.string s, .int .i64 12] w fun e w' => ReadOut 999999999999 s.data.toList e ∧ Below w.heap.size w w' :=
  read_any s 12 999999999999 lim12 (by intro n a b; omega) (by omega) (by omega) hs w
theorem spn_any (s : ByteArray) (hs : s.size ≤ 9223372036854775800) (w : World) :
    Calls Tryd.prog 33 #[.string s, .int .i64 6] w fun e w' => ReadOut 999999 s.data.toList e ∧ Below w.heap.size w w' :=
  read_any s 6 999999 lim6 (by intro n a b; omega) (by omega) (by omega) hs w
set_option maxRecDepth 100000 in
set_option maxHeartbeats 400000 in
theorem spn_yes (s : ByteArray) (n : Int) (hs : s.size ≤ 9223372036854775800) (hn : itoa n = s.data.toList) (n0 : 0 ≤ n) (n1 : n ≤ 999999) (w : World) :
    Calls Tryd.prog 15 #[.string s] w fun e w' => e = .returned (.tuple #[.int .i64 n, .bool true]) ∧ Below w.heap.size w w' := by
  have Hn := Lib.hid hn
  clear hn
  go_enter Tryd.func15, Tryd.ntmps15
  go_wp2_with fail
  refine (spn_any s hs _).mono ?_
  rintro e w1 ⟨hr, hb1⟩
  rcases hr with ⟨m, m0, m1, hm, rfl⟩ | ⟨hno, rfl⟩
  · obtain rfl : m = n := itoa_inj (hm.trans Hn.out.symm) (by omega) (by omega) (by omega) (by omega)
    clear hm
    go_wp2_with fail
    go_ret2
    exact ⟨rfl, hb1⟩
  · exact absurd Hn.out (hno n (by omega) n1)
set_option maxRecDepth 100000 in
set_option maxHeartbeats 400000 in
theorem spn_no (s : ByteArray) (hs : s.size ≤ 9223372036854775800) (hn : ∀ n : Int, 0 ≤ n → n ≤ 999999 → itoa n ≠ s.data.toList) (w : World) :
    Calls Tryd.prog 15 #[.string s] w fun e w' => e = .returned (.tuple #[.int .i64 0, .bool false]) ∧ Below w.heap.size w w' := by
  have Hn := Lib.hid hn
  clear hn
  go_enter Tryd.func15, Tryd.ntmps15
  go_wp2_with fail
  refine (spn_any s hs _).mono ?_
  rintro e w1 ⟨hr, hb1⟩
  rcases hr with ⟨m, m0, m1, hm, rfl⟩ | ⟨hno, rfl⟩
  · have hneg : m < 0 := by
      rcases (show m < 0 ∨ 0 ≤ m by omega) with h | h
      · exact h
      · exact absurd hm (Hn.out m h m1)
    clear hm
    go_wp2_with fail
    go_ret2
    exact ⟨rfl, hb1⟩
  · clear hno
    go_wp2_with fail
    go_ret2
    exact ⟨rfl, hb1⟩
set_option maxRecDepth 100000 in
set_option maxHeartbeats 400000 in
theorem spi_yes (s : ByteArray) (n : Int) (hs : s.size ≤ 9223372036854775800) (hn : itoa n = s.data.toList) (n0 : -999999999999 ≤ n) (n1 : n ≤ 999999999999) (w : World) :
    Calls Tryd.prog 21 #[.string s] w fun e w' => e = .returned (.tuple #[.int .i64 n, .bool true]) ∧ Below w.heap.size w w' := by
  have Hn := Lib.hid hn
  clear hn
  go_enter Tryd.func21, Tryd.ntmps21
  go_wp2_with fail
  refine (spi_any s hs _).mono ?_
  rintro e w1 ⟨hr, hb1⟩
  rcases hr with ⟨m, m0, m1, hm, rfl⟩ | ⟨hno, rfl⟩
  · obtain rfl : m = n := itoa_inj (hm.trans Hn.out.symm) (by omega) (by omega) (by omega) (by omega)
    clear hm
    go_wp2_with fail
    go_ret2
    exact ⟨rfl, hb1⟩
  · exact absurd Hn.out (hno n n0 n1)
set_option maxRecDepth 100000 in
set_option maxHeartbeats 400000 in
theorem spi_no (s : ByteArray) (hs : s.size ≤ 9223372036854775800) (hn : ∀ n : Int, -999999999999 ≤ n → n ≤ 999999999999 → itoa n ≠ s.data.toList) (w : World) :
    Calls Tryd.prog 21 #[.string s] w fun e w' => e = .returned (.tuple #[.int .i64 0, .bool false]) ∧ Below w.heap.size w w' := by
  have Hn := Lib.hid hn
  clear hn
  go_enter Tryd.func21, Tryd.ntmps21
  go_wp2_with fail
  refine (spi_any s hs _).mono ?_
  rintro e w1 ⟨hr, hb1⟩
  rcases hr with ⟨m, m0, m1, hm, rfl⟩ | ⟨hno, rfl⟩
  · exact absurd hm (Hn.out m m0 m1)
  · clear hno
    go_wp2_with fail
    go_ret2
    exact ⟨rfl, hb1⟩
end Go.Proofs.YtlbgkdkgembkkaaDoor
