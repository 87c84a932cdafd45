/- The model's l16Letter, IsValidWord, l16Mark, FormatToken. -/
import Derived.Test.YtgicldokglpimaaTkQ
import Derived.Test.YtgicldokglpimaaBaseB05
import Derived.Test.YtgicldokglpimaaBaseB10
import Derived.Test.YtgicldokglpimaaTcK
namespace Go.Proofs.Ytgicldokglpimaa
open Go.RowKit
attribute [local irreducible] World.cell?
set_option maxRecDepth 100000 in
set_option maxHeartbeats 800000 in
theorem sletter (x : UInt8) (w : World) :
    Calls Try.prog 39 #[.int .u8 (x.toNat : Int)] w fun e w' => e = .returned (.bool (isL x)) ∧ w = w' := by
  obtain ⟨T, hT⟩ : ∃ T, T = isL x := ⟨_, rfl⟩
  rw [← hT]
  have HT := Lib.hid hT
  clear hT
  obtain ⟨n, hn⟩ : ∃ n, n = x.toNat := ⟨_, rfl⟩
  have HN := Lib.hid hn
  rw [← hn]
  clear hn
  by_cases h1 : 97 ≤ n ∧ n ≤ 122
  · obtain rfl : T = true := HT.out.trans (by unfold isL; rw [← HN.out]; simp [h1])
    obtain ⟨h1, h2⟩ := h1
    have e1 : (97 : Int) ≤ (n : Int) := by omega
    have e2 : (n : Int) ≤ 122 := by omega
    clear HT HN
    go_enter Try.func39, Try.ntmps39
    go_wp2_with fail
    go_ret
    exact ⟨rfl, rfl⟩
  · by_cases h3 : 48 ≤ n ∧ n ≤ 57
    · obtain rfl : T = true := HT.out.trans (by unfold isL; rw [← HN.out]; simp [h3])
      have e1 : ¬ (97 : Int) ≤ (n : Int) := by omega
      have e2 : (48 : Int) ≤ (n : Int) := by omega
      have e3 : (n : Int) ≤ 57 := by omega
      clear HT HN h1 h3
      go_enter Try.func39, Try.ntmps39
      go_wp2_with fail
      go_ret
      exact ⟨rfl, rfl⟩
    · have hF : isL x = false := by
        unfold isL
        rw [← HN.out]
        simp only [Bool.or_eq_false_iff, Bool.and_eq_false_iff, decide_eq_false_iff_not]
        omega
      obtain rfl : T = false := HT.out.trans hF
      clear HT HN hF
      by_cases h97 : 97 ≤ n
      · have e1 : (97 : Int) ≤ (n : Int) := by omega
        have e2 : ¬ (n : Int) ≤ 122 := by omega
        have e3 : (48 : Int) ≤ (n : Int) := by omega
        have e4 : ¬ (n : Int) ≤ 57 := by omega
        clear h1 h3 h97
        go_enter Try.func39, Try.ntmps39
        go_wp2_with fail
        go_ret
        exact ⟨rfl, rfl⟩
      · have e1 : ¬ (97 : Int) ≤ (n : Int) := by omega
        by_cases h48 : 48 ≤ n
        · have e3 : (48 : Int) ≤ (n : Int) := by omega
          have e4 : ¬ (n : Int) ≤ 57 := by omega
          clear h1 h3 h97 h48
          go_enter Try.func39, Try.ntmps39
          go_wp2_with fail
          go_ret
          exact ⟨rfl, rfl⟩
        · have e3 : ¬ (48 : Int) ≤ (n : Int) := by omega
          clear h1 h3 h97 h48
          go_enter Try.func39, Try.ntmps39
          go_wp2_with fail
          go_ret
          exact ⟨rfl, rfl⟩
theorem all_takeB {p : UInt8 → Bool} {l : List UInt8} {j : Nat} {x : UInt8} (hx : l[j]? = some x) (h : (l.take j).all p = true) : (l.take (j + 1)).all p = p x := by
  rw [List.take_add_one, hx, List.all_append, h]
  simp
set_option maxRecDepth 100000 in
set_option maxHeartbeats 1600000 in
theorem sisW (T : ByteArray) (w : World) (hm : T.size ≤ 1073741824) :
    Calls Try.prog 18 #[.string T] w fun e w' => e = .returned (.bool (wordB (bs T))) ∧ w = w' := by
  obtain ⟨R, hR⟩ : ∃ R, R = wordB (bs T) := ⟨_, rfl⟩
  rw [← hR]
  have HR := Lib.hid hR
  clear hR
  go_enter Try.func18, Try.ntmps18
  go_wp2_with fail
  go_loopw [3] (fun i wr => ∃ j : Nat, j ≤ T.size ∧ i = .int .i64 j ∧ Hid (((bs T).take j).all isL = true) ∧ w = wr) (fun i _ => T.size - (intOf i).toNat)
  case atStart => exact ⟨0, Nat.zero_le _, rfl, Lib.hid rfl, rfl⟩
  case round =>
    obtain ⟨j, hj, rfl, Hall, rfl⟩ := hrel
    by_cases hlt : j < T.size
    · have hx := bs_at hlt
      have Hs := Lib.hid (fun W => sletter T[j] W)
      have Hat := Lib.hid (all_takeB (p := isL) hx Hall.out)
      have Hno := Lib.hid (show isL T[j] = false → wordB (bs T) = false from fun h => by
        unfold wordB
        rw [Bool.and_eq_false_iff]
        left
        rw [List.all_eq_false]
        exact ⟨T[j], List.mem_of_getElem? hx, by rw [h]; decide⟩)
      clear hx
      generalize isL T[j] = t at *
      cases t with
      | false =>
        obtain rfl : R = false := HR.out.trans (Hno.out rfl)
        go_wp2_with fail
        refine (Hs.out _).mono ?_
        rintro e w1 ⟨rfl, rfl⟩
        go_wp2_with fail
        go_ret
        exact ⟨rfl, rfl⟩
      | true =>
        go_wp2_with fail
        refine (Hs.out _).mono ?_
        rintro e w1 ⟨rfl, rfl⟩
        go_wp2_with fail
        go_roundw
        case rel => exact ⟨j + 1, by omega, by go_num, Lib.hid Hat.out, by first | trivial | rfl⟩
        case measure => simp [intOf]; omega
    · obtain rfl : j = T.size := by omega
      have hall := Hall.out
      rw [List.take_of_length_le (by rw [bs_len]; exact Nat.le_refl _)] at hall
      have e : R = decide ((1 : Int) ≤ (T.size : Int) ∧ (T.size : Int) ≤ 8) := HR.out.trans (by
        unfold wordB
        rw [hall, bs_len, Bool.true_and]
        exact decide_eq_decide.2 (by omega))
      have HL := Lib.hid (fun W => lin_any (T.size : Int) 1 8 R W e.symm)
      clear hall e
      go_wp2_with fail
      refine (HL.out _).mono ?_
      rintro e w1 ⟨rfl, rfl⟩
      go_wp2_with fail
      go_ret
      exact ⟨rfl, rfl⟩
/-- A mark's kind. -/
def mkK (x : UInt8) : Int := if x = 59 then 2 else if x = 123 then 3 else if x = 125 then 4 else 0
theorem mkK_mk (x : UInt8) : (∀ t, mkT x = some t → t.k = mkK x ∧ t.s = [] ∧ mkK x ≠ 0) ∧ (mkT x = none → mkK x = 0) := by
  unfold mkT mkK
  by_cases h1 : x = 59
  · subst h1; exact ⟨fun t h => by cases h; exact ⟨rfl, rfl, by decide⟩, fun h => by cases h⟩
  · rw [if_neg h1, if_neg h1]
    by_cases h2 : x = 123
    · subst h2; exact ⟨fun t h => by cases h; exact ⟨rfl, rfl, by decide⟩, fun h => by cases h⟩
    · rw [if_neg h2, if_neg h2]
      by_cases h3 : x = 125
      · subst h3; exact ⟨fun t h => by cases h; exact ⟨rfl, rfl, by decide⟩, fun h => by cases h⟩
      · rw [if_neg h3, if_neg h3]
        exact ⟨(fun t h => by cases h), fun _ => rfl⟩
theorem u8_ne {x : UInt8} {c : UInt8} (h : x ≠ c) : ((x.toNat : Int) == (c.toNat : Int)) = false := by
  simp
  intro e
  exact h (UInt8.toNat_inj.1 (by omega))
set_option maxRecDepth 100000 in
set_option maxHeartbeats 800000 in
theorem smark (x : UInt8) (w : World) :
    Calls Try.prog 38 #[.int .u8 (x.toNat : Int)] w fun e w' => e = .returned (.int .i64 (mkK x)) ∧ w = w' := by
  by_cases h1 : x = 59
  · subst h1
    go_enter Try.func38, Try.ntmps38
    go_wp2_with fail
    go_ret
    exact ⟨rfl, rfl⟩
  by_cases h2 : x = 123
  · subst h2
    go_enter Try.func38, Try.ntmps38
    go_wp2_with fail
    go_ret
    exact ⟨rfl, rfl⟩
  by_cases h3 : x = 125
  · subst h3
    go_enter Try.func38, Try.ntmps38
    go_wp2_with fail
    go_ret
    exact ⟨rfl, rfl⟩
  have e1 : ((x.toNat : Int) == 59) = false := u8_ne h1
  have e2 : ((x.toNat : Int) == 123) = false := u8_ne h2
  have e3 : ((x.toNat : Int) == 125) = false := u8_ne h3
  rw [show mkK x = 0 by unfold mkK; rw [if_neg h1, if_neg h2, if_neg h3]]
  clear h1 h2 h3
  generalize (x.toNat : Int) = n at *
  go_enter Try.func38, Try.ntmps38
  go_wp2_with fail
  go_ret
  exact ⟨rfl, rfl⟩
theorem bs_nil {T : ByteArray} (h : T ≠ ⟨#[]⟩) : ¬ bs T = [] ∧ ¬ T.toList = [] ∧ T.toList.isEmpty = false ∧ (T.toList == ([] : List UInt8)) = false := by
  have h1 : ¬ bs T = [] := fun e => h (by rw [← sb_bs T, e]; rfl)
  have h2 : ¬ T.toList = [] := fun e => h1 (by rw [ByteArray.toList_eq] at e; exact e)
  refine ⟨h1, h2, ?_, ?_⟩
  · cases e : T.toList with
    | nil => exact absurd e h2
    | cons => rfl
  · rw [Bool.eq_false_iff]; exact fun e => h2 (eq_of_beq e)
theorem tkT_no {k : Int} {T : ByteArray} (h1 : ¬ (k = 1 ∧ wordB (bs T) = true)) (h2 : T ≠ ⟨#[]⟩ ∨ ¬ (2 ≤ k ∧ k ≤ 4)) : tkT ⟨k, bs T⟩ = [] := by
  unfold tkT
  rw [if_neg h1]
  simp only
  rcases h2 with h2 | h2
  · have := (bs_nil h2).1
    rw [if_neg (fun h => this h.1), if_neg (fun h => this h.1), if_neg (fun h => this h.1)]
  · rw [if_neg (by omega), if_neg (by omega), if_neg (by omega)]
set_option maxRecDepth 100000 in
set_option maxHeartbeats 1600000 in
theorem sfmtT (k : Int) (T : ByteArray) (w : World) (hm : T.size ≤ 1073741824) :
    Calls Try.prog 24 #[.agg #[.int .i64 k, .string T]] w fun e w' => e = .returned (.string (sb (tkT ⟨k, bs T⟩))) ∧ Below w.heap.size w w' := by
  have HX := Lib.hid (heap_alloc_new w (.cells #[.int .i64 k, .string T] 31))
  have Hb := Lib.hid (show Below w.heap.size w (w.alloc (.cells #[.int .i64 k, .string T] 31)) by go_grown)
  obtain ⟨c0, c1⟩ := blk_cells2 HX.out
  have hxl := lt_of_block HX.out
  have Hw := Lib.hid (fun W => sisW T W hm)
  by_cases hk1 : k = 1
  · subst hk1
    cases hW : wordB (bs T) with
    | true =>
      rw [show tkT ⟨1, bs T⟩ = bs T by unfold tkT; rw [if_pos ⟨rfl, hW⟩], sb_bs]
      rw [hW] at Hw
      clear hW
      go_enter Try.func24, Try.ntmps24
      go_wp2_with fail
      refine (Hw.out _).mono ?_
      rintro e w1 ⟨rfl, rfl⟩
      go_wp2_with fail
      go_ret
      exact ⟨rfl, Hb.out⟩
    | false =>
      rw [tkT_no (by simp [hW]) (.inr (by omega))]
      rw [hW] at Hw
      clear hW
      have HL := Lib.hid (fun W => lin_no 1 2 4 W (by omega))
      by_cases hT : T = ⟨#[]⟩
      · subst hT
        go_enter Try.func24, Try.ntmps24
        go_wp2_with fail
        refine (Hw.out _).mono ?_
        rintro e w1 ⟨rfl, rfl⟩
        go_wp2_with fail
        refine (HL.out _).mono ?_
        rintro e w1 ⟨rfl, rfl⟩
        go_wp2_with fail
        go_ret
        exact ⟨rfl, Hb.out⟩
      · obtain ⟨-, h2, h3, h4⟩ := bs_nil hT
        clear hT
        go_enter Try.func24, Try.ntmps24
        go_wp2_with fail
        refine (Hw.out _).mono ?_
        rintro e w1 ⟨rfl, rfl⟩
        go_wp2_with fail
        go_ret
        exact ⟨rfl, Hb.out⟩
  · have ek : (k == 1) = false := by simpa using hk1
    by_cases hT : T = ⟨#[]⟩
    · subst hT
      by_cases hr : 2 ≤ k ∧ k ≤ 4
      · have HL := Lib.hid (fun W => lin_yes k 2 4 W hr.1 hr.2)
        rcases (show k = 2 ∨ k = 3 ∨ k = 4 by omega) with rfl | rfl | rfl
        all_goals
          clear ek hk1 hr
          go_enter Try.func24, Try.ntmps24
          go_wp2_with fail
          refine (HL.out _).mono ?_
          rintro e w1 ⟨rfl, rfl⟩
          go_wp2_with fail
          go_ret
          exact ⟨rfl, Hb.out.alloc (by simp) _⟩
      · rw [tkT_no (by simp [hk1]) (.inr hr)]
        have HL := Lib.hid (fun W => lin_no k 2 4 W hr)
        clear hk1 hr
        go_enter Try.func24, Try.ntmps24
        go_wp2_with fail
        refine (HL.out _).mono ?_
        rintro e w1 ⟨rfl, rfl⟩
        go_wp2_with fail
        go_ret
        exact ⟨rfl, Hb.out⟩
    · rw [tkT_no (by simp [hk1]) (.inl hT)]
      obtain ⟨-, h2, h3, h4⟩ := bs_nil hT
      clear hT hk1
      go_enter Try.func24, Try.ntmps24
      go_wp2_with fail
      go_ret
      exact ⟨rfl, Hb.out⟩
end Go.Proofs.Ytgicldokglpimaa
