/- slices.Index, slices.Contains of integers; areDistinctQubits. -/
import Derived.Test.YtlmiebeffdcfhaaBaseB09
import Derived.Test.YtlmiebeffdcfhaaBaseB11
import Derived.Test.YtlmiebeffdcfhaaARow
namespace Go.Proofs.Ytlmiebeffdcfhaa
open Go.RowKit
attribute [local irreducible] World.cell?
set_option maxRecDepth 100000 in
set_option maxHeartbeats 1600000 in
theorem iindexI (g cap : Nat) (l : List Int) (x : Int) (w : World) (h : AR w g l) (hm : l.length ≤ 1048576) :
    Calls Try.prog 63 #[.slice (some ⟨g, 0, none⟩) l.length cap, .int .i64 x] w fun e w' => (∃ r : Int, e = .returned (.int .i64 r) ∧ (x ∈ l ↔ 0 ≤ r)) ∧ w = w' := by
  have H := Lib.hid h
  clear h
  go_enter Try.func63, Try.ntmps63
  go_wp2_with fail
  go_loopw [8] (fun i wr => ∃ j : Nat, j ≤ l.length ∧ i = .int .i64 j ∧ Hid (x ∉ l.take j) ∧ w = wr) (fun i _ => l.length - (intOf i).toNat)
  case atStart => exact ⟨0, Nat.zero_le _, rfl, Lib.hid (by simp), rfl⟩
  case round =>
    obtain ⟨j, hj, rfl, Hn, rfl⟩ := hrel
    by_cases hlt : j < l.length
    · obtain ⟨y, hy⟩ : ∃ y, l[j]? = some y := ⟨l[j], List.getElem?_eq_getElem hlt⟩
      have c0 := H.out.cell hy
      have Hy := Lib.hid hy
      clear hy
      by_cases hxy : x = y
      · have he : (x == y) = true := by simpa using hxy
        have hin : x ∈ l := hxy ▸ List.mem_of_getElem? Hy.out
        have Hin := Lib.hid hin
        clear hin hxy
        go_wp2_with fail
        go_ret
        exact ⟨⟨j, rfl, fun _ => by omega, fun _ => Hin.out⟩, rfl⟩
      · have he : (x == y) = false := by simpa using hxy
        have Hn2 := Lib.hid (show x ∉ l.take (j + 1) by
          rw [List.take_add_one, Hy.out]; intro hc
          rcases List.mem_append.1 hc with hc | hc
          · exact Hn.out hc
          · exact hxy (by simpa using hc))
        clear hxy
        go_wp2_with fail
        go_roundw
        case rel => exact ⟨j + 1, by omega, by go_num, Hn2, trivial⟩
        case measure => simp [intOf]; omega
    · obtain rfl : j = l.length := by omega
      have hn := Hn.out
      rw [List.take_length] at hn
      have Hn2 := Lib.hid hn
      clear hn
      go_wp2_with fail
      go_ret
      exact ⟨⟨-1, rfl, fun hc => absurd hc Hn2.out, fun hc => absurd hc (by decide)⟩, rfl⟩
set_option maxRecDepth 100000 in
set_option maxHeartbeats 800000 in
theorem icontI (g cap : Nat) (l : List Int) (x : Int) (w : World) (h : AR w g l) (hm : l.length ≤ 1048576) :
    Calls Try.prog 51 #[.slice (some ⟨g, 0, none⟩) l.length cap, .int .i64 x] w fun e w' => e = .returned (.bool (decide (x ∈ l))) ∧ w = w' := by
  have H := Lib.hid (iindexI g cap l x w h hm)
  clear h
  obtain ⟨T, hT⟩ : ∃ T, T = decide (x ∈ l) := ⟨_, rfl⟩
  rw [← hT]
  have HT := Lib.hid hT
  clear hT
  go_enter Try.func51, Try.ntmps51
  go_wp2_with fail
  refine H.out.mono ?_
  rintro e w1 ⟨⟨r, rfl, hr⟩, rfl⟩
  by_cases h0 : 0 ≤ r
  · obtain rfl : T = true := HT.out.trans (decide_eq_true (hr.2 h0))
    clear hr
    go_wp2_with fail
    go_ret
    exact ⟨by first | rfl | simp [h0], rfl⟩
  · obtain rfl : T = false := HT.out.trans (decide_eq_false (fun hc => h0 (hr.1 hc)))
    clear hr
    go_wp2_with fail
    go_ret
    exact ⟨by first | rfl | simp [h0], rfl⟩
theorem AR.take {w : World} {g : Nat} {l : List Int} (h : AR w g l) (j : Nat) : AR w g (l.take j) := by
  obtain ⟨cs, ty, h1, h2⟩ := h
  refine ⟨cs, ty, h1, ?_⟩
  rw [List.map_take, ← h2, List.take_take, List.length_take]
set_option maxRecDepth 100000 in
set_option maxHeartbeats 3200000 in
theorem idist (g cap : Nat) (l : List Int) (n : Int) (w : World) (h : AR w g l) (hc : l.length ≤ cap) (hm : l.length ≤ 1048576) :
    Calls Try.prog 29 #[.slice (some ⟨g, 0, none⟩) l.length cap, .int .i64 n] w fun e w' => e = .returned (.bool (dq l n)) ∧ w = w' := by
  have HC := Lib.hid (fun j x => icontI g cap (l.take j) x w (h.take j) (by rw [List.length_take]; omega))
  have H := Lib.hid h
  clear h
  obtain ⟨T, hT⟩ : ∃ T, T = dq l n := ⟨_, rfl⟩
  rw [← hT]
  have HT := Lib.hid hT
  clear hT
  go_enter Try.func29, Try.ntmps29
  go_wp2_with fail
  go_loopw [9] (fun i wr => ∃ j : Nat, j ≤ l.length ∧ i = .int .i64 j ∧ Hid (∀ m, m < j → dqOk l n m = true) ∧ w = wr) (fun i _ => l.length - (intOf i).toNat)
  case atStart => exact ⟨0, Nat.zero_le _, rfl, Lib.hid (fun m hm => absurd hm (by omega)), rfl⟩
  case round =>
    obtain ⟨j, hj, rfl, Hn, rfl⟩ := hrel
    by_cases hlt : j < l.length
    · obtain ⟨y, hy⟩ : ∃ y, l[j]? = some y := ⟨l[j], List.getElem?_eq_getElem hlt⟩
      have c0 := H.out.cell hy
      have hD : l.getD j 0 = y := by rw [List.getD_eq_getElem?_getD, hy]; rfl
      have HD := Lib.hid (show dqOk l n j = (decide (0 ≤ y ∧ y < n) && !decide (y ∈ l.take j)) by unfold dqOk; rw [hD])
      have Hc := Lib.hid (HC.out j y)
      rw [show (l.take j).length = j by rw [List.length_take]; omega] at Hc
      have hbad : dqOk l n j = false → T = false := fun hb => HT.out.trans (by
        unfold dq
        rw [Bool.eq_false_iff]
        intro hall
        rw [List.all_eq_true] at hall
        rw [hall j (List.mem_range.2 hlt)] at hb
        cases hb)
      have Hbad := Lib.hid hbad
      clear hy hD hbad
      by_cases h0 : y < 0
      · obtain rfl : T = false := Hbad.out (by rw [HD.out, decide_eq_false (show ¬ (0 ≤ y ∧ y < n) by omega)]; rfl)
        go_wp2_with fail
        go_ret
        exact ⟨rfl, rfl⟩
      · by_cases h1 : y < n
        · have h1' : ¬ n ≤ y := by omega
          by_cases hin : y ∈ l.take j
          · obtain rfl : T = false := Hbad.out (by rw [HD.out, decide_eq_true hin]; simp)
            rw [decide_eq_true hin] at Hc
            clear hin
            go_wp2_with (first | (go_at_call 51; refine (Hc.out).mono ?_; rintro e w1 ⟨rfl, rfl⟩))
            go_ret
            exact ⟨rfl, rfl⟩
          · have Hn2 := Lib.hid (show ∀ m, m < j + 1 → dqOk l n m = true from fun m hm => by
              by_cases he : m = j
              · subst he; rw [HD.out, decide_eq_true (show 0 ≤ y ∧ y < n by omega), decide_eq_false hin]; rfl
              · exact Hn.out m (by omega))
            rw [decide_eq_false hin] at Hc
            clear hin
            go_wp2_with (first | (go_at_call 51; refine (Hc.out).mono ?_; rintro e w1 ⟨rfl, rfl⟩))
            go_roundw
            case rel => exact ⟨j + 1, by omega, by go_num, Hn2, trivial⟩
            case measure => simp [intOf]; omega
        · obtain rfl : T = false := Hbad.out (by rw [HD.out, decide_eq_false (show ¬ (0 ≤ y ∧ y < n) by omega)]; rfl)
          have h1' : n ≤ y := by omega
          go_wp2_with fail
          go_ret
          exact ⟨rfl, rfl⟩
    · obtain rfl : j = l.length := by omega
      obtain rfl : T = true := HT.out.trans (by
        unfold dq
        rw [List.all_eq_true]
        exact fun m hm => Hn.out m (List.mem_range.1 hm))
      go_wp2_with fail
      go_ret
      exact ⟨rfl, rfl⟩
end Go.Proofs.Ytlmiebeffdcfhaa
