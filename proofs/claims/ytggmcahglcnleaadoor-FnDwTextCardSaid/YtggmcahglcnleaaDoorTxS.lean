/- The first chapter's functions as the fourth's texts want them: numerals as texts, pieces in a row, numbers read. -/
import Derived.Test.YtggmcahglcnleaaDoorTxP
import Derived.Test.YtggmcahglcnleaaDoorBaseA
import Derived.Laws.Concat
namespace Go.Proofs.YtggmcahglcnleaaDoor
open Go.RowKit Go.Lib
theorem sfmt (n : Int) (w : World) (h0 : -9223372036854775808 ≤ n) (h1 : n ≤ 9223372036854775807) :
    Calls Tryd.prog 29 #[.int .i64 n] w fun e w' => e = .returned (.string (toB (itoa n))) ∧ Below w.heap.size w w' := fmt_any n w h0 h1
theorem spint (s : ByteArray) (hs : s.size ≤ 1048576) (w : World) :
    Calls Tryd.prog 26 #[.string s] w fun e w' => (∃ (v : Int) (b : Bool), e = .returned (.tuple #[.int .i64 v, .bool b]) ∧ Got s (-999999999999) 999999999999 v ∧ -999999999999 ≤ v ∧ v ≤ 999999999999) ∧ Below w.heap.size w w' := by
  by_cases h : ∃ n : Int, -999999999999 ≤ n ∧ n ≤ 999999999999 ∧ itoa n = s.data.toList
  · obtain ⟨n, n0, n1, hn⟩ := h
    refine (spi_yes s n (by omega) hn n0 n1 w).mono ?_
    rintro e w1 ⟨rfl, hb⟩
    exact ⟨⟨n, true, rfl, fun m m0 m1 hm => itoa_inj (hn.trans hm.symm) n0 n1 m0 m1, n0, n1⟩, hb⟩
  · refine (spi_no s (by omega) (fun n n0 n1 hn => h ⟨n, n0, n1, hn⟩) w).mono ?_
    rintro e w1 ⟨rfl, hb⟩
    exact ⟨⟨0, false, rfl, fun m m0 m1 hm => absurd ⟨m, m0, m1, hm⟩ h, by omega, by omega⟩, hb⟩
theorem spnum (s : ByteArray) (hs : s.size ≤ 1048576) (w : World) :
    Calls Tryd.prog 27 #[.string s] w fun e w' => (∃ (v : Int) (b : Bool), e = .returned (.tuple #[.int .i64 v, .bool b]) ∧ Got s 0 999999 v ∧ 0 ≤ v ∧ v ≤ 999999) ∧ Below w.heap.size w w' := by
  by_cases h : ∃ n : Int, 0 ≤ n ∧ n ≤ 999999 ∧ itoa n = s.data.toList
  · obtain ⟨n, n0, n1, hn⟩ := h
    refine (spn_yes s n (by omega) hn n0 n1 w).mono ?_
    rintro e w1 ⟨rfl, hb⟩
    exact ⟨⟨n, true, rfl, fun m m0 m1 hm => itoa_inj (hn.trans hm.symm) (by omega) (by omega) (by omega) (by omega), n0, n1⟩, hb⟩
  · refine (spn_no s (by omega) (fun n n0 n1 hn => h ⟨n, n0, n1, hn⟩) w).mono ?_
    rintro e w1 ⟨rfl, hb⟩
    exact ⟨⟨0, false, rfl, fun m m0 m1 hm => absurd ⟨m, m0, m1, hm⟩ h, by omega, by omega⟩, hb⟩
/-- A row of strings that a call gave. -/
theorem own_row {w w' : World} {v : Value} {l : List ByteArray} (h : w'.ownsRow w.heap.size 9 1 v l.length (l.map Value.string)) (hl : 0 < l.length) :
    ∃ g cap, v = .slice (some ⟨g, 0, none⟩) l.length cap ∧ w.heap.size ≤ g ∧ StrRow w' g l.length (fun j => l.getD j ByteArray.empty) := by
  rcases h.2 with ⟨_, h2⟩ | ⟨g, cap, cur, hv, hb, hg, _, _, hs, ht⟩
  · omega
  · refine ⟨g, cap, hv, hb, cur, hg, fun j hj => ?_⟩
    have e := congrArg (fun x : List Value => x[j]?) ht
    simp only [List.getElem?_take, Nat.mul_one, if_pos hj] at e
    rw [← Array.getElem?_toList, e, List.getElem?_map]
    show Option.map Value.string l[j]? = some (Value.string (l.getD j ByteArray.empty))
    rw [List.getD_eq_getElem?_getD, List.getElem?_eq_getElem hj]
    rfl
theorem ssplit (s : ByteArray) (c : UInt8) (w : World) (hs : s.size ≤ 1048576) :
    Calls Tryd.prog 25 #[.string s, .int .u8 c.toNat] w fun e w' => (∃ g cap, e = .returned (.slice (some ⟨g, 0, none⟩) (pcs c s).length cap) ∧ w.heap.size ≤ g ∧ StrRow w' g (pcs c s).length (fun j => (pcs c s).getD j ByteArray.empty)) ∧ Below w.heap.size w w' := by
  refine (split_any s c w hs).mono ?_
  rintro e w1 ⟨⟨v, rfl, ho⟩, hb⟩
  obtain ⟨g, cap, rfl, hg, hr⟩ := own_row ho (by rw [pcs_len]; omega)
  exact ⟨⟨g, cap, rfl, hg, hr⟩, hb⟩
theorem cat_run (l m : List UInt8) (w : World) (h : l.length + m.length ≤ 9223372036854775807) : (binOp .add 9 (.string (toB l)) (.string (toB m))).run Tryd.prog w = .ok (.string (toB (l ++ m))) w := by
  rw [binOp_string_add, run_string_add_sum _ _ _ (by rw [toB_size, toB_size]; exact h)]
  rfl
/-- Four texts joined by commas. -/
theorem sjoin4 (l0 l1 l2 l3 : List UInt8) (h0 : l0.length ≤ 1000) (h1 : l1.length ≤ 1000) (h2 : l2.length ≤ 1000) (h3 : l3.length ≤ 1000) (W : World) :
    Calls Tryd.prog 28 #[.slice (some ⟨W.heap.size, 0, none⟩) 4 4, .string ⟨#[44]⟩] (W.alloc (.cells #[.string (toB l0), .string (toB l1), .string (toB l2), .string (toB l3)] 9))
      fun e w' => e = .returned (.string (toB (l0 ++ 44 :: (l1 ++ 44 :: (l2 ++ 44 :: l3))))) ∧ Below (W.alloc (.cells #[.string (toB l0), .string (toB l1), .string (toB l2), .string (toB l3)] 9)).heap.size (W.alloc (.cells #[.string (toB l0), .string (toB l1), .string (toB l2), .string (toB l3)] 9)) w' := by
  have hrow : StrRow (W.alloc (.cells #[.string (toB l0), .string (toB l1), .string (toB l2), .string (toB l3)] 9)) W.heap.size 4 (fun j => [toB l0, toB l1, toB l2, toB l3].getD j ByteArray.empty) := by
    refine ⟨_, heap_alloc_new _ _, fun j hj => ?_⟩
    rcases (show j = 0 ∨ j = 1 ∨ j = 2 ∨ j = 3 by omega) with rfl | rfl | rfl | rfl <;> rfl
  refine (sjoin_any W.heap.size 4 4 _ ⟨#[44]⟩ _ hrow (by omega) (by simp [totS, toB_size]; omega) (by decide)).mono ?_
  rintro e w1 ⟨rfl, hb⟩
  refine ⟨?_, hb⟩
  congr 2
  show toB _ = toB _
  congr 1
  rw [joinK_succ _ _ 3 (by omega), joinK_succ _ _ 2 (by omega), joinK_succ _ _ 1 (by omega), joinK_one]
  simp [toB_data]
end Go.Proofs.YtggmcahglcnleaaDoor
