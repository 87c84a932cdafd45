/- The model's FormatTokens, Tokenize. -/
import Derived.Test.YtgicldokglpimaaTkS
import Derived.Test.YtgicldokglpimaaWas
import Derived.Test.YtgicldokglpimaaBaseB18
namespace Go.Proofs.Ytgicldokglpimaa
open Go.RowKit
attribute [local irreducible] World.cell?
set_option maxRecDepth 100000 in
set_option maxHeartbeats 1600000 in
theorem sfmtTs (B : Nat) (v : Value) (L : List Tk) (w : World) (hv : tkE.Sl w B v L) (hm : L.length ≤ 1048576) (hs : ∀ t ∈ L, t.s.length ≤ 1073741824) :
    Calls Try.prog 12 #[v] w fun e w' => e = .returned (.string (sb (tksL true L))) ∧ Below w.heap.size w w' := by
  obtain ⟨a, cap, rfl, hcap, hr⟩ := hv
  have Hr := Lib.hid hr
  have Hs := Lib.hid hs
  clear hr hs
  go_enter Try.func12, Try.ntmps12
  go_wp2_with fail
  go_loopg [3, 4] L.length (fun m s i wr => ∃ j : Nat, m = L.length - j ∧ j ≤ L.length ∧ s = .string (sb (tksL true (L.take j))) ∧ i = .int .i64 j ∧ Hid (Below w.heap.size w wr))
  case atStart => exact ⟨0, rfl, Nat.zero_le _, rfl, rfl, Lib.hid (Below.refl _ _)⟩
  case round =>
    obtain ⟨j, rfl, hj, rfl, rfl, Hb⟩ := hrel
    by_cases hlt : j < L.length
    · obtain ⟨g, rfl, _, hrow⟩ := Hr.out (by omega)
      obtain ⟨x, hx⟩ : ∃ x, L[j]? = some x := ⟨L[j], List.getElem?_eq_getElem hlt⟩
      have r1 := hrow.below Hb.out hrow.lt
      obtain ⟨c0, c1⟩ := TRow.cells r1 hx
      have hgl := r1.lt
      have Hst := Lib.hid (show tksL true (L.take (j + 1)) = tksL true (L.take j) ++ ((if j = 0 ∨ x.k = 2 then [] else [32]) ++ tkT x) by
        rw [List.take_add_one, hx, Option.toList_some, tksL_snoc]
        congr 2
        have e : (L.take j).isEmpty = decide (j = 0) := by
          cases j with
          | zero => rfl
          | succ n =>
            cases L with
            | nil => simp at hlt
            | cons => simp
        rw [e]
        simp)
      have hF := sfmtT x.k (sb x.s)
      rw [bs_sb] at hF
      have HF := Lib.hid (fun W => hF W (by rw [sb_size]; exact Hs.out x (List.mem_of_getElem? hx)))
      have h1 := tksL_len true (L.take j)
      rw [List.length_take, Nat.min_eq_left hj] at h1
      have h2 := tkT_len x
      rw [show (⟨x.k, x.s⟩ : Tk) = x from rfl] at HF
      have z1 := sb_size (tksL true (L.take j))
      have z2 := sb_size (tkT x)
      generalize tksL true (L.take j) = A at *
      generalize tkT x = E at *
      have h9 : (ByteArray.mk #[32]).size = 1 := rfl
      have g1 : (sb A).size + (sb E).size ≤ 9223372036854775807 := by omega
      have g2 : ¬ 9223372036854775807 < (sb A).size + (sb E).size := by omega
      have g3 : (sb A).size + 1 ≤ 9223372036854775807 := by omega
      have g4 : ¬ 9223372036854775807 < (sb A).size + 1 := by omega
      have g5 : (sb A).size + (ByteArray.mk #[32]).size ≤ 9223372036854775807 := by omega
      have g6 : ¬ 9223372036854775807 < (sb A).size + (ByteArray.mk #[32]).size := by omega
      have g7 : (sb A ++ ByteArray.mk #[32]).size + (sb E).size ≤ 9223372036854775807 := by rw [ByteArray.size_append]; omega
      have g8 : (sb A).size + 1 + (sb E).size ≤ 9223372036854775807 := by omega
      have g9 : ¬ 9223372036854775807 < (sb A).size + 1 + (sb E).size := by omega
      have g10 : (sb A).size + (ByteArray.mk #[32]).size + (sb E).size ≤ 9223372036854775807 := by omega
      clear hF hrow r1 hx h1 h2 z1 z2 h9
      by_cases h0 : j = 0
      · have Hst2 := Lib.hid (show sb A ++ sb E = sb (tksL true (L.take (j + 1))) by rw [Hst.out, if_pos (.inl h0), List.nil_append, sb_app])
        have e0 : ¬ (0 : Int) < (j : Int) := by omega
        clear Hst h0
        go_wp2_with fail
        refine (HF.out _).mono ?_
        rintro e w2 ⟨rfl, hb2⟩
        have Hb2 := Lib.hid (below_nx Hb.out hb2)
        clear hb2
        go_wp2_with fail
        go_roundg (L.length - (j + 1))
        case measure => omega
        case rel => exact ⟨j + 1, rfl, by omega, congrArg Value.string Hst2.out, by go_num, Hb2⟩
      · have e0 : (0 : Int) < (j : Int) := by omega
        by_cases h2 : x.k = 2
        · have Hst2 := Lib.hid (show sb A ++ sb E = sb (tksL true (L.take (j + 1))) by rw [Hst.out, if_pos (.inr h2), List.nil_append, sb_app])
          rw [h2] at c0 HF
          clear Hst h0 h2
          go_wp2_with fail
          refine (HF.out _).mono ?_
          rintro e w2 ⟨rfl, hb2⟩
          have Hb2 := Lib.hid (below_nx Hb.out hb2)
          clear hb2
          go_wp2_with fail
          go_roundg (L.length - (j + 1))
          case measure => omega
          case rel => exact ⟨j + 1, rfl, by omega, congrArg Value.string Hst2.out, by go_num, Hb2⟩
        · have ek : (x.k != 2) = true := by simpa using h2
          have Hst2 := Lib.hid (show sb A ++ ByteArray.mk #[32] ++ sb E = sb (tksL true (L.take (j + 1))) by
            rw [Hst.out, if_neg (by omega), show ByteArray.mk #[32] = sb [32] from rfl, sb_app, sb_app, List.append_assoc])
          clear Hst h0 h2
          go_wp2_with fail
          refine (HF.out _).mono ?_
          rintro e w2 ⟨rfl, hb2⟩
          have Hb2 := Lib.hid (below_nx Hb.out hb2)
          clear hb2
          go_wp2_with fail
          go_roundg (L.length - (j + 1))
          case measure => omega
          case rel => exact ⟨j + 1, rfl, by omega, congrArg Value.string Hst2.out, by go_num, Hb2⟩
    · obtain rfl : j = L.length := by omega
      go_wp2_with fail
      go_ret
      exact ⟨congrArg (fun l => Ending.returned (Value.string (sb (tksL true l)))) (List.take_length (l := L)), Hb.out⟩
theorem set2_atT {w : World} {b : Nat} {z0 z1 u0 u1 : Value} {t : TypeId} (h : w.heap[b]? = some (.cells #[z0, z1] t (0, 0))) : ((w.setCell ⟨b, 0, none⟩ u0).setCell ⟨b, 1, none⟩ u1).heap[b]? = some (.cells #[u0, u1] t (0, 0)) := by
  have h1 := heap_set h 0 u0
  have h2 := heap_set h1 1 u1
  exact h2
theorem bs_ext {T : ByteArray} {i k : Nat} : bs (T.extract i k) = ((bs T).drop i).take (k - i) := by
  simp only [bs, ByteArray.data_extract, Array.toList_extract, List.extract_eq_take_drop]
theorem scan_end {L : List UInt8} {i k : Nat} (hik : i ≤ k) (_hk : k ≤ L.length) (hall : ((L.drop i).take (k - i)).all isL = true) (hst : ∀ x, (L.drop k).head? = some x → isL x = false) :
    (L.drop i).takeWhile isL = (L.drop i).take (k - i) ∧ (L.drop i).dropWhile isL = L.drop k := by
  have e : (L.drop i).take (k - i) ++ L.drop k = L.drop i := by
    conv => rhs; rw [← List.take_append_drop (k - i) (L.drop i)]
    rw [List.drop_drop, show i + (k - i) = k by omega]
  have h := take_stop ((L.drop i).take (k - i)) (L.drop k) (fun x hx => List.all_eq_true.1 hall x hx) hst
  rw [e] at h
  exact h
theorem drop_at {L : List UInt8} {i : Nat} {x : UInt8} (hx : L[i]? = some x) : L.drop i = x :: L.drop (i + 1) := by
  have hi : i < L.length := by
    rcases Nat.lt_or_ge i L.length with h | h
    · exact h
    · rw [List.getElem?_eq_none h] at hx; cases hx
  rw [List.getElem?_eq_getElem hi] at hx
  injection hx with hx
  rw [← hx]
  exact (List.getElem_cons_drop ..).symm
theorem tz_skip {x : UInt8} {r : List UInt8} {M : List Tk} (h : x = 32 ∨ x = 10) : tz (x :: r) M = tz r M := by rw [tz, if_pos h]
theorem tz_mk {x : UInt8} {t : Tk} {r : List UInt8} {M : List Tk} (h : ¬ (x = 32 ∨ x = 10)) (hm : mkT x = some t) : tz (x :: r) M = if M.length = 160 then none else tz r (M ++ [t]) := by
  rw [tz, if_neg h, hm]
theorem tz_wd {x : UInt8} {r : List UInt8} {M : List Tk} (h : ¬ (x = 32 ∨ x = 10)) (hm : mkT x = none) : tz (x :: r) M = if wordB ((x :: r).takeWhile isL) = true ∧ M.length ≠ 160 then tz ((x :: r).dropWhile isL) (M ++ [⟨1, (x :: r).takeWhile isL⟩]) else none := by
  rw [tz, if_neg h, hm]
  simp only
  by_cases hx : isL x = true
  · rw [List.takeWhile_cons, List.dropWhile_cons, hx, if_pos rfl, if_pos rfl]
    simp
  · rw [Bool.not_eq_true] at hx
    rw [List.takeWhile_cons, hx]
    simp [wordB]
end Go.Proofs.Ytgicldokglpimaa
