/- The draws of lists of tokens and of texts that the laws take. -/
import Derived.Test.YtgicldokglpimaaTkE
namespace Go.Proofs.Ytgicldokglpimaa
open Go.RowKit Go.Lib
theorem tkT_s {t : Tk} (h : tkT t ≠ []) : t.s.length ≤ 8 := by
  rcases tkT_cases h with ⟨_, h2, _⟩ | ⟨x, hx, _⟩
  · exact (wordB_all h2).2.2
  · unfold mkT at hx
    split at hx
    · cases hx; decide
    · split at hx
      · cases hx; decide
      · split at hx
        · cases hx; decide
        · cases hx
def xlist : List ByteArray := [⟨#[32]⟩, ⟨#[10]⟩, ⟨#[59]⟩, ⟨#[123]⟩, ⟨#[125]⟩, ⟨#[97]⟩, ⟨#[65]⟩, ⟨#[49, 50, 51, 52, 53, 54, 55, 56, 57]⟩, ⟨#[9]⟩, ⟨#[32, 32]⟩]
theorem xlist_at (w : World) : ListAt (w.alloc (.cells #[.string ⟨#[32]⟩, .string ⟨#[10]⟩, .string ⟨#[59]⟩, .string ⟨#[123]⟩, .string ⟨#[125]⟩, .string ⟨#[97]⟩, .string ⟨#[65]⟩, .string ⟨#[49, 50, 51, 52, 53, 54, 55, 56, 57]⟩, .string ⟨#[9]⟩, .string ⟨#[32, 32]⟩] 9)) w.heap.size 10 (fun j => .string (xlist.getD j ByteArray.empty)) := by
  refine zlist_at (heap_alloc_new _ _) 10 _ ?_
  intro j hj
  rcases (show j = 0 ∨ j = 1 ∨ j = 2 ∨ j = 3 ∨ j = 4 ∨ j = 5 ∨ j = 6 ∨ j = 7 ∨ j = 8 ∨ j = 9 by omega) with rfl | rfl | rfl | rfl | rfl | rfl | rfl | rfl | rfl | rfl <;> rfl
theorem xlist_small : ∀ j, j < 10 → (xlist.getD j ByteArray.empty).size ≤ 10 := by
  intro j hj
  rcases (show j = 0 ∨ j = 1 ∨ j = 2 ∨ j = 3 ∨ j = 4 ∨ j = 5 ∨ j = 6 ∨ j = 7 ∨ j = 8 ∨ j = 9 by omega) with rfl | rfl | rfl | rfl | rfl | rfl | rfl | rfl | rfl | rfl <;> decide
attribute [local irreducible] World.cell?
set_option maxRecDepth 100000 in
set_option maxHeartbeats 3200000 in
theorem drawTks (a0 : Option Addr) (len cap : Nat) (w : World) (hcode : CodeAt w w.heap.size a0 len) :
    Calls Try.prog 10 #[.slice a0 len cap] w fun e w' => (∃ v l, e = .returned v ∧ List.length l ≤ 8 ∧ (∀ t ∈ l, TkI t) ∧ tkE.Sl w' w.heap.size v l) ∧ Below w.heap.size w w' := by
  obtain ⟨i0, hi, hz0, hz1, hz2⟩ := info_parts infoTk
  have Hcode := Lib.hid hcode
  clear hcode
  go_enter Try.func10, Try.ntmps10
  go_wp2_with fail
  refine (new_any a0 len cap _ Hcode.out).mono ?_
  rintro e w1 ⟨rfl, hc1, hb1, hz1'⟩
  have Hc1 := Lib.hid hc1
  have Hb1 := Lib.hid hb1
  clear hc1 hb1
  go_wp2_with fail
  refine (toks_any w.heap.size _ Hc1.out (by omega)).mono ?_
  rintro e w2 ⟨⟨v, l, rfl, hl, hld, hown⟩, hc2, ho2⟩
  have hs2 := ho2.size
  have Hld := Lib.hid (show ∀ t ∈ l, TkI t from fun t ht => (hld t ht).i)
  have Hown2 := Lib.hid hown
  have Hc2 := Lib.hid hc2
  have Hb2 := Lib.hid (own_below Hb1.out ho2 (by omega))
  obtain ⟨pv, cv, rfl⟩ := own_shape hown
  clear hc2 ho2 Hc1 Hb1 hld hown
  go_wp2_with fail
  refine (once_any w.heap.size 4 _ Hc2.out (by omega) (by omega)).mono ?_
  rintro e w3 ⟨⟨x, rfl⟩, hc3, ho3⟩
  have hs3 := ho3.size
  have Hown3 := Lib.hid (row_own Hown2.out ho3 (by omega))
  have Hb3 := Lib.hid (own_below Hb2.out ho3 (by omega))
  clear hc3 ho3 Hc2 Hb2 Hown2
  cases x with
  | false =>
    go_wp2_with fail
    go_returns
    exact ⟨⟨_, l, rfl, by omega, Hld.out, (Enc.Sl.of_own (E := tkE) (l := l) Hown3.out).mono (by omega)⟩, Hb3.out⟩
  | true =>
    have Hcd := Lib.hid ((Hcode.out.below Hb3.out).mono Hb3.out.size)
    go_wp2_with fail
    refine (drawTk a0 len cap _ Hcd.out).mono ?_
    rintro e w4 ⟨⟨t, rfl, ht⟩, hb4⟩
    have Hown4 := Lib.hid ((row_below Hown3.out hb4).alloc (.cells #[.int .i64 t.k, .string (sb t.s)] 31))
    have hs4 := hb4.size
    have hb4' := below_nx Hb3.out hb4
    have Hb4 := Lib.hid (hb4'.alloc hb4'.size (.cells #[.int .i64 t.k, .string (sb t.s)] 31))
    have Hnew := Lib.hid (show tkE.Sl (w4.alloc (.cells #[.int .i64 t.k, .string (sb t.s)] 31)) w4.heap.size (.slice (some ⟨w4.heap.size, 0, none⟩) 1 1) [t] from Enc.Sl.mk rfl (Nat.le_refl _) (Nat.le_refl _) ⟨_, heap_alloc_new w4 _, rfl⟩)
    clear hb4 hb4' Hb3 Hown3 Hcd
    go_wp2_with (first
      | (at_builtin; refine wpList_append_sl (E := tkE) rfl _ _ 24 rfl w1.heap.size i0 (.agg #[.int .i64 0, .string ⟨#[]⟩]) 24 Try.underlying24 hi hz0 hz1 hz2 rfl (by decide) _ _ _ rfl Hown4.out w4.heap.size _ [t] rfl Hnew.out ?d3 ?d4 ?d5 ?_))
    case d3 => unfold maxLen; simp; omega
    case d4 => simp; omega
    case d5 => simp; omega
    intro v' w5 hown' hgrow hat
    rw [← tkE.flat_app] at hown'
    have hown9 : w5.ownsRow w1.heap.size 31 2 v' (l ++ [t]).length (tkE.flat (l ++ [t])) := by rw [List.length_append]; exact hown'
    have Hb5 := Lib.hid (Hb4.out.grown hgrow (by have := Hb4.out.size; omega) (fun q hq => by have := (Hown4.out.lt q hq).1; omega))
    have Hown5 := Lib.hid hown9
    have Hld5 := Lib.hid (show ∀ g' ∈ l ++ [t], TkI g' from fun g' h => by
      rcases List.mem_append.1 h with h | h
      · exact Hld.out g' h
      · obtain rfl := List.mem_singleton.1 h; exact ht)
    clear hown' hown9 hgrow hat
    go_wp2_with fail
    go_returns
    exact ⟨⟨_, _, rfl, by simp; omega, Hld5.out, (Enc.Sl.of_own (E := tkE) Hown5.out).mono (by omega)⟩, Hb5.out⟩
set_option maxRecDepth 100000 in
set_option maxHeartbeats 3200000 in
theorem drawTz (a0 : Option Addr) (len cap : Nat) (w : World) (hcode : CodeAt w w.heap.size a0 len) :
    Calls Try.prog 16 #[.slice a0 len cap] w fun e w' => TRet e ∧ Below w.heap.size w w' := by
  have Hcode := Lib.hid hcode
  clear hcode
  go_enter Try.func16, Try.ntmps16
  go_wp2_with fail
  refine (new_any a0 len cap _ Hcode.out).mono ?_
  rintro e w1 ⟨rfl, hc1, hb1, hz1⟩
  have Hc1 := Lib.hid hc1
  have Hb1 := Lib.hid hb1
  clear hc1 hb1
  go_wp2_with fail
  refine (once_any w.heap.size 40 _ Hc1.out (by omega) (by omega)).mono ?_
  rintro e w2 ⟨⟨x, rfl⟩, hc2, ho2⟩
  have hs2 := ho2.size
  have Hc2 := Lib.hid hc2
  have Hb2 := Lib.hid (own_below Hb1.out ho2 (by omega))
  clear hc2 ho2 Hc1 Hb1
  cases x with
  | true =>
    go_wp2_with fail
    refine (below_any w.heap.size 3 _ Hc2.out (by omega) (by omega)).mono ?_
    rintro e w3 ⟨⟨y, y0, y1, rfl⟩, hc3, ho3⟩
    have Hb3 := Lib.hid (own_below Hb2.out ho3 (by omega))
    obtain ⟨n, hn⟩ : ∃ n : Nat, 159 + y = n := ⟨(159 + y).toNat, by omega⟩
    have hn2 : n ≤ 161 := by omega
    have hn3 : -9223372036854775808 ≤ 159 + y ∧ 159 + y ≤ 9223372036854775807 := by omega
    clear hc3 ho3 Hc2
    go_wp2_with fail
    go_loopg [4, 6] n (fun m s i wr => ∃ (j : Nat) (T : ByteArray), m = n - j ∧ j ≤ n ∧ s = .string T ∧ i = .int .i64 j ∧ T.size = j ∧ w3 = wr)
    case atStart => exact ⟨0, ⟨#[]⟩, rfl, Nat.zero_le _, rfl, rfl, rfl, rfl⟩
    case round =>
      obtain ⟨j, T, rfl, hj, rfl, rfl, hT, rfl⟩ := hrel
      by_cases hlt : j < n
      · have hlI : (j : Int) < 159 + y := by omega
        have g1 : T.size + 1 ≤ 9223372036854775807 := by omega
        have g2 : ¬ 9223372036854775807 < T.size + 1 := by omega
        have g3 : T.size + (ByteArray.mk #[59]).size ≤ 9223372036854775807 := by show T.size + 1 ≤ _; omega
        have g4 : ¬ 9223372036854775807 < T.size + (ByteArray.mk #[59]).size := by show ¬ _ < T.size + 1; omega
        go_wp2_with fail
        go_roundg (n - (j + 1))
        case measure => omega
        case rel => exact ⟨j + 1, _, rfl, by omega, rfl, by go_num, by rw [ByteArray.size_append, hT]; rfl, rfl⟩
      · obtain rfl : j = n := by omega
        have hlI : ¬ (j : Int) < 159 + y := by omega
        go_wp2_with fail
        go_ret
        exact ⟨tret T (by omega), Hb3.out⟩
  | false =>
    go_wp2_with fail
    refine (toks_any w.heap.size _ Hc2.out (by omega)).mono ?_
    rintro e w3 ⟨⟨v, l, rfl, hl, hld, hown⟩, hc3, ho3⟩
    have hs3 := ho3.size
    have Hc3 := Lib.hid hc3
    have Hb3 := Lib.hid (own_below Hb2.out ho3 (by omega))
    have Hf := Lib.hid (sfmtTs _ v l w3 (Enc.Sl.of_own (E := tkE) (l := l) hown) (by omega) (fun t ht => by have := (hld t ht).2; omega))
    have hcs := tksL_len true l
    have hcs2 : (sb (tksL true l)).size ≤ 1000 := by rw [sb_size]; omega
    have hz3 : w.heap.size < w3.heap.size := by omega
    obtain ⟨pv, cv, rfl⟩ := own_shape hown
    clear hc3 ho3 Hc2 Hb2 hld hown hcs
    generalize sb (tksL true l) = T at *
    go_wp2_with fail
    refine (Hf.out).mono ?_
    rintro e w4 ⟨rfl, hb4⟩
    have hs4 := hb4.size
    have hc4 := Hc3.out.below hb4 hz3
    have hbn := below_nx Hb3.out hb4
    have Hb4 := Lib.hid (hbn.alloc hbn.size (.cells #[.string ⟨#[32]⟩, .string ⟨#[10]⟩, .string ⟨#[59]⟩, .string ⟨#[123]⟩, .string ⟨#[125]⟩, .string ⟨#[97]⟩, .string ⟨#[65]⟩, .string ⟨#[49, 50, 51, 52, 53, 54, 55, 56, 57]⟩, .string ⟨#[9]⟩, .string ⟨#[32, 32]⟩] 9))
    have Hc4 := Lib.hid (hc4.own (own_alloc (own_refl w4.heap.size w4) (.cells #[.string ⟨#[32]⟩, .string ⟨#[10]⟩, .string ⟨#[59]⟩, .string ⟨#[123]⟩, .string ⟨#[125]⟩, .string ⟨#[97]⟩, .string ⟨#[65]⟩, .string ⟨#[49, 50, 51, 52, 53, 54, 55, 56, 57]⟩, .string ⟨#[9]⟩, .string ⟨#[32, 32]⟩] 9)) (by omega))
    have hB4 : w.heap.size < (w4.alloc (.cells #[.string ⟨#[32]⟩, .string ⟨#[10]⟩, .string ⟨#[59]⟩, .string ⟨#[123]⟩, .string ⟨#[125]⟩, .string ⟨#[97]⟩, .string ⟨#[65]⟩, .string ⟨#[49, 50, 51, 52, 53, 54, 55, 56, 57]⟩, .string ⟨#[9]⟩, .string ⟨#[32, 32]⟩] 9)).heap.size := by simp; omega
    have Zl4 := Lib.hid (xlist_at w4)
    have hm4 : w4.heap.size ≠ w.heap.size := by omega
    clear hb4 hc4 hbn Hc3 Hf
    go_wp2_with fail
    refine (turned_any _ w4.heap.size 10 _ _ T _ Hc4.out hB4 Zl4.out hm4 (by omega) (by omega) xlist_small hcs2).mono ?_
    rintro e w5 ⟨⟨t, rfl, ht⟩, hc5, ho5⟩
    have Hb5 := Lib.hid (below_own Hb4.out ho5 (by omega) Hb4.out.size)
    clear ho5 hc5
    go_wp2_with fail
    go_ret
    exact ⟨tret t ht, Hb5.out⟩
end Go.Proofs.Ytgicldokglpimaa
