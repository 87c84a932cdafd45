/- The program's isWordByte, leadingWord, IsValidWord, FormatToken. -/
import Derived.Test.YtgicldokglpimaaTkW
namespace Go.Proofs.Ytgicldokglpimaa
open Go.RowKit
attribute [local irreducible] World.cell?
set_option maxRecDepth 100000 in
set_option maxHeartbeats 800000 in
theorem iletter (x : UInt8) (w : World) :
    Calls Try.prog 46 #[.int .u8 (x.toNat : Int)] w fun e w' => e = .returned (.bool (isL x)) ∧ w = w' := by
  obtain ⟨T, hT⟩ : ∃ T, T = isL x := ⟨_, rfl⟩
  rw [← hT]
  have HT := Lib.hid hT
  clear hT
  obtain ⟨n, hn⟩ : ∃ n, n = x.toNat := ⟨_, rfl⟩
  have HN := Lib.hid hn
  rw [← hn]
  clear hn
  by_cases h1 : 97 ≤ n ∧ n ≤ 122
  · obtain rfl : T = true := HT.out.trans (by unfold isL; rw [← HN.out]; simp [h1])
    obtain ⟨h1, h2⟩ := h1
    have e1 : (97 : Int) ≤ (n : Int) := by omega
    have e2 : (n : Int) ≤ 122 := by omega
    clear HT HN
    go_enter Try.func46, Try.ntmps46
    go_wp2_with fail
    go_ret
    exact ⟨rfl, rfl⟩
  · by_cases h3 : 48 ≤ n ∧ n ≤ 57
    · obtain rfl : T = true := HT.out.trans (by unfold isL; rw [← HN.out]; simp [h3])
      have e1 : ¬ (97 : Int) ≤ (n : Int) := by omega
      have e2 : (48 : Int) ≤ (n : Int) := by omega
      have e3 : (n : Int) ≤ 57 := by omega
      clear HT HN h1 h3
      go_enter Try.func46, Try.ntmps46
      go_wp2_with fail
      go_ret
      exact ⟨rfl, rfl⟩
    · have hF : isL x = false := by
        unfold isL
        rw [← HN.out]
        simp only [Bool.or_eq_false_iff, Bool.and_eq_false_iff, decide_eq_false_iff_not]
        omega
      obtain rfl : T = false := HT.out.trans hF
      clear HT HN hF
      by_cases h97 : 97 ≤ n
      · have e1 : (97 : Int) ≤ (n : Int) := by omega
        have e2 : ¬ (n : Int) ≤ 122 := by omega
        have e3 : (48 : Int) ≤ (n : Int) := by omega
        have e4 : ¬ (n : Int) ≤ 57 := by omega
        clear h1 h3 h97
        go_enter Try.func46, Try.ntmps46
        go_wp2_with fail
        go_ret
        exact ⟨rfl, rfl⟩
      · have e1 : ¬ (97 : Int) ≤ (n : Int) := by omega
        by_cases h48 : 48 ≤ n
        · have e3 : (48 : Int) ≤ (n : Int) := by omega
          have e4 : ¬ (n : Int) ≤ 57 := by omega
          clear h1 h3 h97 h48
          go_enter Try.func46, Try.ntmps46
          go_wp2_with fail
          go_ret
          exact ⟨rfl, rfl⟩
        · have e3 : ¬ (48 : Int) ≤ (n : Int) := by omega
          clear h1 h3 h97 h48
          go_enter Try.func46, Try.ntmps46
          go_wp2_with fail
          go_ret
          exact ⟨rfl, rfl⟩
set_option maxRecDepth 100000 in
set_option maxHeartbeats 1600000 in
theorem ilead (T : ByteArray) (w : World) (hm : T.size ≤ 1073741824) :
    Calls Try.prog 35 #[.string T] w fun e w' => e = .returned (.string (sb ((bs T).takeWhile isL))) ∧ w = w' := by
  obtain ⟨R, hR⟩ : ∃ R, R = sb ((bs T).takeWhile isL) := ⟨_, rfl⟩
  rw [← hR]
  have HR := Lib.hid hR
  clear hR
  go_enter Try.func35, Try.ntmps35
  go_wp2_with fail
  go_loopg [3, 6] T.size (fun m _ i wr => ∃ j : Nat, m = T.size - j ∧ j ≤ T.size ∧ i = .int .i64 j ∧ Hid (((bs T).take j).all isL = true) ∧ w = wr)
  case atStart => exact ⟨0, rfl, Nat.zero_le _, rfl, Lib.hid rfl, rfl⟩
  case round =>
    obtain ⟨j, rfl, hj, rfl, Hall, rfl⟩ := hrel
    by_cases hlt : j < T.size
    · have hx := bs_at hlt
      have Hs := Lib.hid (fun W => iletter T[j] W)
      have Hat := Lib.hid (all_takeB (p := isL) hx Hall.out)
      have Hno := Lib.hid (show isL T[j] = false → R = T.extract 0 j from fun h => by
        have e := scan_end (L := bs T) (i := 0) (k := j) (Nat.zero_le _) (by rw [bs_len]; exact hj) (by rw [List.drop_zero, Nat.sub_zero]; exact Hall.out) (fun y hy => by
          rw [drop_at hx] at hy
          simp at hy
          rw [← hy]; exact h)
        rw [HR.out, ← sb_bs (T.extract 0 j), bs_ext]
        exact congrArg sb e.1)
      clear hx
      generalize isL T[j] = t at *
      cases t with
      | false =>
        obtain rfl := Hno.out rfl
        go_wp2_with fail
        refine (Hs.out _).mono ?_
        rintro e w1 ⟨rfl, rfl⟩
        go_wp2_with fail
        go_ret
        exact ⟨rfl, rfl⟩
      | true =>
        go_wp2_with fail
        refine (Hs.out _).mono ?_
        rintro e w1 ⟨rfl, rfl⟩
        go_wp2_with fail
        go_roundg (T.size - (j + 1))
        case measure => omega
        case rel => exact ⟨j + 1, rfl, by omega, by go_num, Lib.hid Hat.out, by first | trivial | rfl⟩
    · obtain rfl : j = T.size := by omega
      have hall := Hall.out
      rw [List.take_of_length_le (by rw [bs_len]; exact Nat.le_refl _)] at hall
      obtain rfl : R = T := by
        rw [HR.out]
        conv => rhs; rw [← sb_bs T]
        congr 1
        have e := take_stop (bs T) [] (fun x hx => List.all_eq_true.1 hall x hx) (fun x h => by cases h)
        rw [List.append_nil] at e
        exact e.1
      clear hall
      go_wp2_with fail
      go_ret
      exact ⟨rfl, rfl⟩
theorem lead_all (l : List UInt8) : (l.takeWhile isL = l) ↔ (l.all isL = true) := by
  constructor
  · intro h
    rw [← h]
    clear h
    induction l with
    | nil => rfl
    | cons x r ih =>
      rw [List.takeWhile_cons]
      split
      · rename_i hx; rw [List.all_cons, hx, ih]; rfl
      · rfl
  · intro h
    have e := take_stop l [] (fun x hx => List.all_eq_true.1 h x hx) (fun x h => by cases h)
    rw [List.append_nil] at e
    exact e.1
theorem iisW0 (T : ByteArray) (w : World) (hm : T.size ≤ 1073741824) :
    Calls Try.prog 19 #[.string T] w fun e w' => e = .returned (.bool (wordB (bs T))) ∧ w = w' := by
  obtain ⟨R, hR⟩ : ∃ R, R = wordB (bs T) := ⟨_, rfl⟩
  rw [← hR]
  have HR := Lib.hid hR
  clear hR
  have Hl := Lib.hid (fun W => ilead T W hm)
  by_cases hT : T = ⟨#[]⟩
  · subst hT
    obtain rfl : R = false := HR.out
    clear HR
    go_enter Try.func19, Try.ntmps19
    go_wp2_with fail
    go_ret
    exact ⟨rfl, rfl⟩
  · obtain ⟨n1, n2, n3, n4⟩ := bs_nil hT
    by_cases h8 : T.size ≤ 8
    · have e8 : (T.size : Int) ≤ 8 := by omega
      obtain ⟨Y, hY⟩ : ∃ Y, Y = sb ((bs T).takeWhile isL) := ⟨_, rfl⟩
      rw [← hY] at Hl
      have e : (Y.toList == T.toList) = R := by
        rw [HR.out]
        unfold wordB
        have h1 : 1 ≤ (bs T).length := by
          cases e : bs T with
          | nil => exact absurd e n1
          | cons => simp
        rw [show decide (1 ≤ (bs T).length ∧ (bs T).length ≤ 8) = true by rw [decide_eq_true_eq]; exact ⟨h1, by rw [bs_len]; exact h8⟩, Bool.and_true, Bool.eq_iff_iff, beq_iff_eq, ByteArray.toList_eq, ByteArray.toList_eq, ← lead_all, hY, show (sb ((bs T).takeWhile isL)).data.toList = (bs T).takeWhile isL by simp [sb], show T.data.toList = bs T from rfl]
      clear HR hY hT
      go_enter Try.func19, Try.ntmps19
      go_wp2_with fail
      refine (Hl.out _).mono ?_
      rintro e w1 ⟨rfl, rfl⟩
      go_wp2_with fail
      go_ret
      exact ⟨by rw [← e]; rfl, rfl⟩
    · have e8 : ¬ (T.size : Int) ≤ 8 := by omega
      obtain rfl : R = false := HR.out.trans (by
        unfold wordB
        rw [bs_len, Bool.and_eq_false_iff, decide_eq_false_iff_not]
        exact .inr (by omega))
      clear HR hT
      go_enter Try.func19, Try.ntmps19
      go_wp2_with fail
      go_ret
      exact ⟨rfl, rfl⟩
theorem iisW (T : ByteArray) (w : World) (hm : T.size ≤ 1073741824) :
    Calls Try.prog 19 #[.string T] w fun e w' => e = .returned (.bool (wordB (bs T))) ∧ Below w.heap.size w w' :=
  (iisW0 T w hm).mono (by rintro e w1 ⟨rfl, rfl⟩; exact ⟨rfl, Below.refl _ _⟩)
set_option maxRecDepth 100000 in
set_option maxHeartbeats 1600000 in
theorem ifmtT (k : Int) (T : ByteArray) (w : World) (hm : T.size ≤ 1073741824) :
    Calls Try.prog 14 #[.agg #[.int .i64 k, .string T]] w fun e w' => e = .returned (.string (sb (tkT ⟨k, bs T⟩))) ∧ Below w.heap.size w w' := by
  have HX := Lib.hid (heap_alloc_new w (.cells #[.int .i64 k, .string T] 31))
  have Hb := Lib.hid (show Below w.heap.size w (w.alloc (.cells #[.int .i64 k, .string T] 31)) by go_grown)
  obtain ⟨c0, c1⟩ := blk_cells2 HX.out
  have hxl := lt_of_block HX.out
  have Hw := Lib.hid (fun W => iisW0 T W hm)
  by_cases hk1 : k = 1
  · subst hk1
    cases hW : wordB (bs T) with
    | true =>
      rw [show tkT ⟨1, bs T⟩ = bs T by unfold tkT; rw [if_pos ⟨rfl, hW⟩], sb_bs]
      rw [hW] at Hw
      clear hW
      go_enter Try.func14, Try.ntmps14
      go_wp2_with fail
      refine (Hw.out _).mono ?_
      rintro e w1 ⟨rfl, rfl⟩
      go_wp2_with fail
      go_ret
      exact ⟨rfl, Hb.out⟩
    | false =>
      rw [tkT_no (by simp [hW]) (.inr (by omega))]
      rw [hW] at Hw
      clear hW
      by_cases hT : T = ⟨#[]⟩
      · subst hT
        go_enter Try.func14, Try.ntmps14
        go_wp2_with fail
        refine (Hw.out _).mono ?_
        rintro e w1 ⟨rfl, rfl⟩
        go_wp2_with fail
        go_ret
        exact ⟨rfl, Hb.out⟩
      · obtain ⟨-, h2, h3, h4⟩ := bs_nil hT
        clear hT
        go_enter Try.func14, Try.ntmps14
        go_wp2_with fail
        refine (Hw.out _).mono ?_
        rintro e w1 ⟨rfl, rfl⟩
        go_wp2_with fail
        go_ret
        exact ⟨rfl, Hb.out⟩
  · have ek : (k == 1) = false := by simpa using hk1
    by_cases hT : T = ⟨#[]⟩
    · subst hT
      by_cases hr : 2 ≤ k ∧ k ≤ 4
      · rcases (show k = 2 ∨ k = 3 ∨ k = 4 by omega) with rfl | rfl | rfl
        all_goals
          clear ek hk1 hr
          go_enter Try.func14, Try.ntmps14
          go_wp2_with fail
          go_ret
          exact ⟨rfl, Hb.out⟩
      · rw [tkT_no (by simp [hk1]) (.inr hr)]
        have e2 : (k == 2) = false := by simp; omega
        have e3 : (k == 3) = false := by simp; omega
        have e4 : (k == 4) = false := by simp; omega
        clear hk1 hr
        go_enter Try.func14, Try.ntmps14
        go_wp2_with fail
        go_ret
        exact ⟨rfl, Hb.out⟩
    · rw [tkT_no (by simp [hk1]) (.inl hT)]
      obtain ⟨-, h2, h3, h4⟩ := bs_nil hT
      clear hT hk1
      go_enter Try.func14, Try.ntmps14
      go_wp2_with fail
      go_ret
      exact ⟨rfl, Hb.out⟩
end Go.Proofs.Ytgicldokglpimaa
