/- impl.integerWithin: it returns the integer that a numeral spells, or panics. -/
import Derived.Test.YtbnkanlebjpkfaaDoorFmtImpl
import Derived.Test.YtbnkanlebjpkfaaDoorStdAtoi
import Derived.Test.YtbnkanlebjpkfaaDoorDigits
import Derived.WalkSmall
namespace Go.Proofs.YtbnkanlebjpkfaaDoor
open Go.RowKit Go.Lib
theorem gSyn : Tryd.prog.globalNamed "strconv.ErrSyntax" = some 3 := by kernel_rfl
theorem gRan : Tryd.prog.globalNamed "strconv.ErrRange" = some 4 := by kernel_rfl
/-- The world holds the library's two errors. -/
def HasErrs (w : World) : Prop := (∃ tp p, w.var? Tryd.prog "strconv.ErrSyntax" = some #[.iface tp p]) ∧ (∃ tp p, w.var? Tryd.prog "strconv.ErrRange" = some #[.iface tp p])
theorem var_stays {w w' : World} {n : String} {g : Nat} {v : Value} (hg : Tryd.prog.globalNamed n = some g) (h : w.var? Tryd.prog n = some #[v]) (hb : Below w.heap.size w w') : w'.var? Tryd.prog n = some #[v] :=
  var?_below hb hg (by have h0 := World.var?_cell hg h 0; exact World.block_lt_of_cell? _ _ (show w.cell? ⟨g, 0, none⟩ = some v by simpa using h0)) h
theorem HasErrs.below {w w' : World} (h : HasErrs w) (hb : Below w.heap.size w w') : HasErrs w' := by
  obtain ⟨⟨a, b, h1⟩, c, d, h2⟩ := h
  exact ⟨⟨a, b, var_stays gSyn h1 hb⟩, c, d, var_stays gRan h2 hb⟩
theorem atoi_ok (s : ByteArray) (v : Int) (hmax : s.size ≤ 9223372036854775806) (h : atoiAll s.data.toList = .ok v) (w : World) :
    Calls Tryd.prog 69 #[.string s] w fun e w' => e = .returned (.tuple #[.int .i64 v, .nilIface]) ∧ Below w.heap.size w w' := by
  refine (Any.strconv_Atoi_ok Tryd.laysC172 s hmax v h w).mono ?_
  rintro e w' ⟨rfl, rfl | ⟨t, rfl⟩⟩
  · exact ⟨rfl, Below.refl _ _⟩
  · exact ⟨rfl, Lib.bytesWorld_below _ _ _⟩
theorem atoi_bad (s : ByteArray) (hlim : s.size ≤ 281474976710656) (h : ∀ v, atoiAll s.data.toList ≠ .ok v) (w : World) (he : HasErrs w) :
    Calls Tryd.prog 69 #[.string s] w fun e w' => (∃ n N, e = .returned (.tuple #[.int .i64 n, .iface 121 (.pointer (some ⟨N, 0, none⟩))])) ∧ Below w.heap.size w w' := by
  obtain ⟨⟨tp, p, h1⟩, tp2, p2, h2⟩ := he
  cases ha : atoiAll s.data.toList
  · exact absurd ha (h _)
  · refine (Any.strconv_Atoi_syntax_var Tryd.laysC172 s hlim ha tp p w h1).mono ?_
    rintro e w' ⟨N, rfl, _, _, hb⟩
    exact ⟨⟨_, N, rfl⟩, hb⟩
  · refine (Any.strconv_Atoi_range_var Tryd.laysC172 s hlim ha tp2 p2 w h2).mono ?_
    rintro e w' ⟨N, rfl, _, _, hb⟩
    exact ⟨⟨_, N, rfl⟩, hb⟩
set_option maxRecDepth 100000 in
set_option maxHeartbeats 400000 in
theorem within_yes (s : ByteArray) (n low high : Int) (hn : itoa n = s.data.toList) (h0 : -9223372036854775808 ≤ n) (h1 : n ≤ 9223372036854775807) (hl : low ≤ n) (hh : n ≤ high) (w : World) (hp : HasPow w) :
    Calls Tryd.prog 61 #[.string s, .int .i64 low, .int .i64 high] w fun e w' => e = .returned (.int .i64 n) ∧ Below w.heap.size w w' := by
  have ha : atoiAll s.data.toList = .ok n := by rw [← hn]; exact atoiAll_itoa n h0 h1
  have hlen : s.size ≤ 21 := by have := itoa_len n h0 h1; rw [hn] at this; simpa using this
  have Ha := Lib.hid ha
  have Hn := Lib.hid hn
  clear ha hn
  go_enter Tryd.func61, Tryd.ntmps61
  go_wp2_with fail
  refine (atoi_ok s n (by omega) Ha.out _).mono ?_
  rintro e w1 ⟨rfl, hb1⟩
  go_wp2_with fail
  refine (ifmt_any n _ h0 h1 (hp.below hb1)).mono ?_
  rintro e w2 ⟨rfl, hb2⟩
  have hq : s.toList = itoa n := by rw [ByteArray.toList_eq]; exact Hn.out.symm
  go_wp2_with fail
  go_ret
  exact ⟨rfl, hb1.trans (hb2.mono hb1.size)⟩
/-- The panic of an integer that is not within its limits. -/
def Stops (e : Ending) : Prop := ∃ v, e = .panicked [{ v := .iface 9 (.string v), recovered := false }]
set_option maxRecDepth 100000 in
set_option maxHeartbeats 800000 in
theorem within_no (s : ByteArray) (low high : Int) (hlim : s.size ≤ 281474976710656) (hn : ∀ n, low ≤ n → n ≤ high → itoa n ≠ s.data.toList) (w : World) (hp : HasPow w) (he : HasErrs w) :
    Calls Tryd.prog 61 #[.string s, .int .i64 low, .int .i64 high] w fun e w' => Stops e ∧ Below w.heap.size w w' := by
  have Hn := Lib.hid hn
  clear hn
  by_cases hok : ∃ v, atoiAll s.data.toList = .ok v
  · obtain ⟨v, ha⟩ := hok
    obtain ⟨b0, b1⟩ := atoiAll_bounds ha
    have Ha := Lib.hid ha
    clear ha
    by_cases hl : v < low
    · go_enter Tryd.func61, Tryd.ntmps61
      go_wp2_with fail
      refine (atoi_ok s v (by omega) Ha.out _).mono ?_
      rintro e w1 ⟨rfl, hb1⟩
      go_wp2_with fail
      exact ⟨rfl, ⟨_, rfl⟩, hb1⟩
    · by_cases hh : high < v
      · go_enter Tryd.func61, Tryd.ntmps61
        go_wp2_with fail
        refine (atoi_ok s v (by omega) Ha.out _).mono ?_
        rintro e w1 ⟨rfl, hb1⟩
        go_wp2_with fail
        exact ⟨rfl, ⟨_, rfl⟩, hb1⟩
      · have hq : (itoa v == s.toList) = false := by
          rw [ByteArray.toList_eq]; simpa using Hn.out v (by omega) (by omega)
        go_enter Tryd.func61, Tryd.ntmps61
        go_wp2_with fail
        refine (atoi_ok s v (by omega) Ha.out _).mono ?_
        rintro e w1 ⟨rfl, hb1⟩
        go_wp2_with fail
        refine (ifmt_any v _ b0 b1 (hp.below hb1)).mono ?_
        rintro e w2 ⟨rfl, hb2⟩
        go_wp2_with fail
        exact ⟨rfl, ⟨_, rfl⟩, hb1.trans (hb2.mono hb1.size)⟩
  · have Hok := Lib.hid (show ∀ v, atoiAll s.data.toList ≠ .ok v from fun v h => hok ⟨v, h⟩)
    clear hok
    go_enter Tryd.func61, Tryd.ntmps61
    go_wp2_with fail
    refine (atoi_bad s hlim Hok.out _ he).mono ?_
    rintro e w1 ⟨⟨n, N, rfl⟩, hb1⟩
    go_wp2_with fail
    exact ⟨rfl, ⟨_, rfl⟩, hb1⟩
end Go.Proofs.YtbnkanlebjpkfaaDoor
