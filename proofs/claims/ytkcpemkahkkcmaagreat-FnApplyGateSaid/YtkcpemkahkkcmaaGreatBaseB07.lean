/- BaseB07: several of our texts in one: GtE GtKb GtKc. -/
import Derived.Test.YtkcpemkahkkcmaaGreatBaseB06
import Derived.Test.YtkcpemkahkkcmaaGreatDwDraw
import Derived.Test.YtkcpemkahkkcmaaGreatBaseB19
namespace Go.Proofs.YtkcpemkahkkcmaaGreat
open Go.RowKit
def most9 : List Int := [0, 8, 11, 12, 12]
theorem most9_bd (j : Nat) (h1 : 1 ≤ j) (h4 : j ≤ 4) : 1 ≤ most9.getD j 0 ∧ most9.getD j 0 ≤ 12 := by
  rcases (show j = 1 ∨ j = 2 ∨ j = 3 ∨ j = 4 by omega) with rfl | rfl | rfl | rfl <;> decide
def kinds9 : List Int := [4, 7, 5, 8, 9, 9, 9, 9]
theorem list_new9 (w : World) : ListAt (w.alloc (.cells #[.int .i64 4, .int .i64 7, .int .i64 5, .int .i64 8, .int .i64 9, .int .i64 9, .int .i64 9, .int .i64 9] 3)) w.heap.size 8 (fun j => .int .i64 (kinds9.getD j 0)) := by
  refine zlist_at (heap_alloc_new w _) 8 _ fun j hj => ?_
  rcases (show j = 0 ∨ j = 1 ∨ j = 2 ∨ j = 3 ∨ j = 4 ∨ j = 5 ∨ j = 6 ∨ j = 7 by omega) with rfl | rfl | rfl | rfl | rfl | rfl | rfl | rfl <;> rfl
attribute [local irreducible] World.cell?
set_option maxRecDepth 100000 in
set_option maxHeartbeats 3200000 in
theorem gate_any (B n : Nat) (w : World) (hcur : CurAt w B) (hB : B < w.heap.size) (h1 : 1 ≤ n) (h4 : n ≤ 4) :
    Calls Tryz.prog 38 #[.pointer (some ⟨B, 0, none⟩), .int .i64 n] w fun e w' => (∃ g, e = .returned (.agg #[.int .i64 g.k, .int .i64 g.a, .int .i64 g.b, .int .i64 g.c]) ∧ GtBd g) ∧ CurAt w' B ∧ Own B w w' := by
  have Ha := Lib.hid (fun k w => sar k w)
  have HR := Lib.hid (alloc_blk (.cells #[.int .i64 0, .int .i64 8, .int .i64 11, .int .i64 12, .int .i64 12] 3) (heap_alloc_new w (.cells #[.int .i64 0, .int .i64 0, .int .i64 0, .int .i64 0] 25)))
  have hne : w.heap.size ≠ B := by omega
  have Hb0 := Lib.hid (show Below w.heap.size w ((w.alloc (.cells #[.int .i64 0, .int .i64 0, .int .i64 0, .int .i64 0] 25)).alloc (.cells #[.int .i64 0, .int .i64 8, .int .i64 11, .int .i64 12, .int .i64 12] 3)) by go_grown)
  have hrow : ((w.alloc (.cells #[.int .i64 0, .int .i64 0, .int .i64 0, .int .i64 0] 25)).alloc (.cells #[.int .i64 0, .int .i64 8, .int .i64 11, .int .i64 12, .int .i64 12] 3)).heap[w.heap.size + 1]? = some (.cells #[.int .i64 0, .int .i64 8, .int .i64 11, .int .i64 12, .int .i64 12] 3 (0, 0)) := by
    simpa using heap_alloc_new (w.alloc (.cells #[.int .i64 0, .int .i64 0, .int .i64 0, .int .i64 0] 25)) (.cells #[.int .i64 0, .int .i64 8, .int .i64 11, .int .i64 12, .int .i64 12] 3)
  obtain ⟨m, hm⟩ : ∃ m, m = most9.getD n 0 := ⟨_, rfl⟩
  have hmb := most9_bd n h1 h4
  rw [← hm] at hmb
  have cm := IRow.cell (l := most9) (j := n) (x := m) ⟨_, hrow, rfl⟩ (by rw [hm, List.getD_eq_getElem?_getD, List.getElem?_eq_getElem (show n < most9.length by simp [most9]; omega)]; rfl)
  have Hc0 := Lib.hid (hcur.below Hb0.out hB)
  have Ho0 := Lib.hid (show Own B w _ from own_of_below Hb0.out)
  clear hm hrow hcur
  go_enter Tryz.func38, Tryz.ntmps38
  go_wp2_with fail
  refine (below_any B m _ Hc0.out (by omega) (by omega)).mono ?_
  rintro e w1 ⟨⟨x, x0, x1, rfl⟩, hc1, ho1⟩
  have hs1 := ho1.size
  simp at hs1
  have Hc1 := Lib.hid hc1
  have HR1 := Lib.hid (own_blk ho1 hne HR.out)
  have Ho1 := Lib.hid (own_trans Ho0.out ho1)
  clear hc1 ho1 cm Hc0 HR
  go_wp2_with fail
  refine (once_any B 2 _ Hc1.out (by omega) (by omega)).mono ?_
  rintro e w2 ⟨⟨b, rfl⟩, hc2, ho2⟩
  have hs2 := ho2.size
  have Hc2 := Lib.hid hc2
  have HR2 := Lib.hid (own_blk ho2 hne HR1.out)
  have Ho2 := Lib.hid (own_trans Ho1.out ho2)
  clear hc2 ho2 Hc1 HR1
  cases b with
  | false =>
    have HcT := Hc2
    have HRT := HR2
    have HoT := Ho2
    clear Hc2 HR2 Ho2
    have kk0 : 1 ≤ 1 + x := by omega
    have kk1 : 1 + x ≤ 12 := by omega
    go_wp2_with fail
    generalize 1 + x = kk at *

    refine (Ha.out _ _).mono ?_
    rintro e w8 ⟨rfl, rfl⟩
    by_cases har : ar kk ≤ n
    · have hd : decide ((n : Int) < ar kk) = false := decide_eq_false (by omega)
      have hdn : ¬ n < ar kk := by omega
      go_wp2_with fail
      refine (on_any B n kk _ HcT.out (by omega) kk0 kk1 h1 h4 har).mono ?_
      rintro e w9 ⟨⟨g, rfl, hgb⟩, hc9, ho9⟩
      have hR9 := own_blk ho9 hne HRT.out
      have hs9 := ho9.size
      have HoF := Lib.hid (own_trans HoT.out ho9)
      have Hc9 := Lib.hid hc9
      obtain ⟨r0, r1, r2, r3⟩ := blk_cells hR9
      have fR := fun o => free_at hR9 o
      have hRl := lt_of_block hR9
      have HR9 := Lib.hid hR9
      clear hR9 hc9 ho9
      go_wp2_with fail
      obtain ⟨k0', k1', k2', k3'⟩ := blk_cells (set4_at (u0 := .int .i64 g.k) (u1 := .int .i64 g.a) (u2 := .int .i64 g.b) (u3 := .int .i64 g.c) HR9.out)
      refine bodyPost_ret (v := (.agg #[.int .i64 g.k, .int .i64 g.a, .int .i64 g.b, .int .i64 g.c])) (by simp only [results, Tryz.results38]; simp [go_sem, k0', k1', k2', k3']) rfl ⟨⟨g, rfl, hgb⟩, ?_, ?_⟩
      · refine Hc9.out.below (C := w.heap.size) ?_ hB
        have := Below.refl w9.heap.size w9
        go_grown
      · refine own_under HoF.out (C := w.heap.size) ?_ (Nat.le_refl _)
        have := Below.refl w9.heap.size w9
        go_grown
    · have hd : decide ((n : Int) < ar kk) = true := decide_eq_true (by omega)
      have hdn : n < ar kk := by omega
      go_wp2_with fail
      refine (on_any B n 4 _ HcT.out (by omega) (by decide) (by decide) h1 h4 (by have : ar 4 = 1 := rfl; omega)).mono ?_
      rintro e w9 ⟨⟨g, rfl, hgb⟩, hc9, ho9⟩
      have hR9 := own_blk ho9 hne HRT.out
      have hs9 := ho9.size
      have HoF := Lib.hid (own_trans HoT.out ho9)
      have Hc9 := Lib.hid hc9
      obtain ⟨r0, r1, r2, r3⟩ := blk_cells hR9
      have fR := fun o => free_at hR9 o
      have hRl := lt_of_block hR9
      have HR9 := Lib.hid hR9
      clear hR9 hc9 ho9
      go_wp2_with fail
      obtain ⟨k0', k1', k2', k3'⟩ := blk_cells (set4_at (u0 := .int .i64 g.k) (u1 := .int .i64 g.a) (u2 := .int .i64 g.b) (u3 := .int .i64 g.c) HR9.out)
      refine bodyPost_ret (v := (.agg #[.int .i64 g.k, .int .i64 g.a, .int .i64 g.b, .int .i64 g.c])) (by simp only [results, Tryz.results38]; simp [go_sem, k0', k1', k2', k3']) rfl ⟨⟨g, rfl, hgb⟩, ?_, ?_⟩
      · refine Hc9.out.below (C := w.heap.size) ?_ hB
        have := Below.refl w9.heap.size w9
        go_grown
      · refine own_under HoF.out (C := w.heap.size) ?_ (Nat.le_refl _)
        have := Below.refl w9.heap.size w9
        go_grown

  | true =>
    have HL := Lib.hid (list_new9 w2)
    have HA2 := Lib.hid (Hc2.out.own (own_alloc (own_refl w2.heap.size w2) (.cells #[.int .i64 4, .int .i64 7, .int .i64 5, .int .i64 8, .int .i64 9, .int .i64 9, .int .i64 9, .int .i64 9] 3)) (by omega))
    go_wp2_with fail
    refine (pickB B w2.heap.size 8 8 kinds9 _ HA2.out HL.out (by omega) (by omega) (by omega) rfl 1 12 (by decide)).mono ?_
    rintro e w3 ⟨⟨kk, kk0, kk1, rfl⟩, hc3, ho3⟩
    have hs3 := ho3.size
    simp at hs3
    have HcT := Lib.hid hc3
    have HRT := Lib.hid (own_blk ho3 hne (alloc_blk _ HR2.out))
    have HoT := Lib.hid (own_trans (own_alloc Ho2.out _) ho3)
    clear hc3 ho3 Hc2 HR2 Ho2
    go_wp2_with fail

    refine (Ha.out _ _).mono ?_
    rintro e w8 ⟨rfl, rfl⟩
    by_cases har : ar kk ≤ n
    · have hd : decide ((n : Int) < ar kk) = false := decide_eq_false (by omega)
      have hdn : ¬ n < ar kk := by omega
      go_wp2_with fail
      refine (on_any B n kk _ HcT.out (by omega) kk0 kk1 h1 h4 har).mono ?_
      rintro e w9 ⟨⟨g, rfl, hgb⟩, hc9, ho9⟩
      have hR9 := own_blk ho9 hne HRT.out
      have hs9 := ho9.size
      have HoF := Lib.hid (own_trans HoT.out ho9)
      have Hc9 := Lib.hid hc9
      obtain ⟨r0, r1, r2, r3⟩ := blk_cells hR9
      have fR := fun o => free_at hR9 o
      have hRl := lt_of_block hR9
      have HR9 := Lib.hid hR9
      clear hR9 hc9 ho9
      go_wp2_with fail
      obtain ⟨k0', k1', k2', k3'⟩ := blk_cells (set4_at (u0 := .int .i64 g.k) (u1 := .int .i64 g.a) (u2 := .int .i64 g.b) (u3 := .int .i64 g.c) HR9.out)
      refine bodyPost_ret (v := (.agg #[.int .i64 g.k, .int .i64 g.a, .int .i64 g.b, .int .i64 g.c])) (by simp only [results, Tryz.results38]; simp [go_sem, k0', k1', k2', k3']) rfl ⟨⟨g, rfl, hgb⟩, ?_, ?_⟩
      · refine Hc9.out.below (C := w.heap.size) ?_ hB
        have := Below.refl w9.heap.size w9
        go_grown
      · refine own_under HoF.out (C := w.heap.size) ?_ (Nat.le_refl _)
        have := Below.refl w9.heap.size w9
        go_grown
    · have hd : decide ((n : Int) < ar kk) = true := decide_eq_true (by omega)
      have hdn : n < ar kk := by omega
      go_wp2_with fail
      refine (on_any B n 4 _ HcT.out (by omega) (by decide) (by decide) h1 h4 (by have : ar 4 = 1 := rfl; omega)).mono ?_
      rintro e w9 ⟨⟨g, rfl, hgb⟩, hc9, ho9⟩
      have hR9 := own_blk ho9 hne HRT.out
      have hs9 := ho9.size
      have HoF := Lib.hid (own_trans HoT.out ho9)
      have Hc9 := Lib.hid hc9
      obtain ⟨r0, r1, r2, r3⟩ := blk_cells hR9
      have fR := fun o => free_at hR9 o
      have hRl := lt_of_block hR9
      have HR9 := Lib.hid hR9
      clear hR9 hc9 ho9
      go_wp2_with fail
      obtain ⟨k0', k1', k2', k3'⟩ := blk_cells (set4_at (u0 := .int .i64 g.k) (u1 := .int .i64 g.a) (u2 := .int .i64 g.b) (u3 := .int .i64 g.c) HR9.out)
      refine bodyPost_ret (v := (.agg #[.int .i64 g.k, .int .i64 g.a, .int .i64 g.b, .int .i64 g.c])) (by simp only [results, Tryz.results38]; simp [go_sem, k0', k1', k2', k3']) rfl ⟨⟨g, rfl, hgb⟩, ?_, ?_⟩
      · refine Hc9.out.below (C := w.heap.size) ?_ hB
        have := Below.refl w9.heap.size w9
        go_grown
      · refine own_under HoF.out (C := w.heap.size) ?_ (Nat.le_refl _)
        have := Below.refl w9.heap.size w9
        go_grown
end Go.Proofs.YtkcpemkahkkcmaaGreat
namespace Go.Proofs.YtkcpemkahkkcmaaGreat
open Go.RowKit
attribute [local irreducible] World.cell?
set_option maxRecDepth 100000 in
set_option maxHeartbeats 1600000 in
theorem iindexI (g cap : Nat) (l : List Int) (x : Int) (w : World) (h : AR w g l) (hm : l.length ≤ 1048576) :
    Calls Tryz.prog 94 #[.slice (some ⟨g, 0, none⟩) l.length cap, .int .i64 x] w fun e w' => (∃ r : Int, e = .returned (.int .i64 r) ∧ (x ∈ l ↔ 0 ≤ r)) ∧ w = w' := by
  have H := Lib.hid h
  clear h
  go_enter Tryz.func94, Tryz.ntmps94
  go_wp2_with fail
  go_loopw [8] (fun i wr => ∃ j : Nat, j ≤ l.length ∧ i = .int .i64 j ∧ Hid (x ∉ l.take j) ∧ w = wr) (fun i _ => l.length - (intOf i).toNat)
  case atStart => exact ⟨0, Nat.zero_le _, rfl, Lib.hid (by simp), rfl⟩
  case round =>
    obtain ⟨j, hj, rfl, Hn, rfl⟩ := hrel
    by_cases hlt : j < l.length
    · obtain ⟨y, hy⟩ : ∃ y, l[j]? = some y := ⟨l[j], List.getElem?_eq_getElem hlt⟩
      have c0 := H.out.cell hy
      have Hy := Lib.hid hy
      clear hy
      by_cases hxy : x = y
      · have he : (x == y) = true := by simpa using hxy
        have hin : x ∈ l := hxy ▸ List.mem_of_getElem? Hy.out
        have Hin := Lib.hid hin
        clear hin hxy
        go_wp2_with fail
        go_ret
        exact ⟨⟨j, rfl, fun _ => by omega, fun _ => Hin.out⟩, rfl⟩
      · have he : (x == y) = false := by simpa using hxy
        have Hn2 := Lib.hid (show x ∉ l.take (j + 1) by
          rw [List.take_add_one, Hy.out]; intro hc
          rcases List.mem_append.1 hc with hc | hc
          · exact Hn.out hc
          · exact hxy (by simpa using hc))
        clear hxy
        go_wp2_with fail
        go_roundw
        case rel => exact ⟨j + 1, by omega, by go_num, Hn2, trivial⟩
        case measure => simp [intOf]; omega
    · obtain rfl : j = l.length := by omega
      have hn := Hn.out
      rw [List.take_length] at hn
      have Hn2 := Lib.hid hn
      clear hn
      go_wp2_with fail
      go_ret
      exact ⟨⟨-1, rfl, fun hc => absurd hc Hn2.out, fun hc => absurd hc (by decide)⟩, rfl⟩
set_option maxRecDepth 100000 in
set_option maxHeartbeats 800000 in
theorem icontI (g cap : Nat) (l : List Int) (x : Int) (w : World) (h : AR w g l) (hm : l.length ≤ 1048576) :
    Calls Tryz.prog 77 #[.slice (some ⟨g, 0, none⟩) l.length cap, .int .i64 x] w fun e w' => e = .returned (.bool (decide (x ∈ l))) ∧ w = w' := by
  have H := Lib.hid (iindexI g cap l x w h hm)
  clear h
  obtain ⟨T, hT⟩ : ∃ T, T = decide (x ∈ l) := ⟨_, rfl⟩
  rw [← hT]
  have HT := Lib.hid hT
  clear hT
  go_enter Tryz.func77, Tryz.ntmps77
  go_wp2_with fail
  refine H.out.mono ?_
  rintro e w1 ⟨⟨r, rfl, hr⟩, rfl⟩
  by_cases h0 : 0 ≤ r
  · obtain rfl : T = true := HT.out.trans (decide_eq_true (hr.2 h0))
    clear hr
    go_wp2_with fail
    go_ret
    exact ⟨by first | rfl | simp [h0], rfl⟩
  · obtain rfl : T = false := HT.out.trans (decide_eq_false (fun hc => h0 (hr.1 hc)))
    clear hr
    go_wp2_with fail
    go_ret
    exact ⟨by first | rfl | simp [h0], rfl⟩
theorem AR.take {w : World} {g : Nat} {l : List Int} (h : AR w g l) (j : Nat) : AR w g (l.take j) := by
  obtain ⟨cs, ty, h1, h2⟩ := h
  refine ⟨cs, ty, h1, ?_⟩
  rw [List.map_take, ← h2, List.take_take, List.length_take]
set_option maxRecDepth 100000 in
set_option maxHeartbeats 3200000 in
theorem idist (g cap : Nat) (l : List Int) (n : Int) (w : World) (h : AR w g l) (hc : l.length ≤ cap) (hm : l.length ≤ 1048576) :
    Calls Tryz.prog 43 #[.slice (some ⟨g, 0, none⟩) l.length cap, .int .i64 n] w fun e w' => e = .returned (.bool (dq l n)) ∧ w = w' := by
  have HC := Lib.hid (fun j x => icontI g cap (l.take j) x w (h.take j) (by rw [List.length_take]; omega))
  have H := Lib.hid h
  clear h
  obtain ⟨T, hT⟩ : ∃ T, T = dq l n := ⟨_, rfl⟩
  rw [← hT]
  have HT := Lib.hid hT
  clear hT
  go_enter Tryz.func43, Tryz.ntmps43
  go_wp2_with fail
  go_loopw [9] (fun i wr => ∃ j : Nat, j ≤ l.length ∧ i = .int .i64 j ∧ Hid (∀ m, m < j → dqOk l n m = true) ∧ w = wr) (fun i _ => l.length - (intOf i).toNat)
  case atStart => exact ⟨0, Nat.zero_le _, rfl, Lib.hid (fun m hm => absurd hm (by omega)), rfl⟩
  case round =>
    obtain ⟨j, hj, rfl, Hn, rfl⟩ := hrel
    by_cases hlt : j < l.length
    · obtain ⟨y, hy⟩ : ∃ y, l[j]? = some y := ⟨l[j], List.getElem?_eq_getElem hlt⟩
      have c0 := H.out.cell hy
      have hD : l.getD j 0 = y := by rw [List.getD_eq_getElem?_getD, hy]; rfl
      have HD := Lib.hid (show dqOk l n j = (decide (0 ≤ y ∧ y < n) && !decide (y ∈ l.take j)) by unfold dqOk; rw [hD])
      have Hc := Lib.hid (HC.out j y)
      rw [show (l.take j).length = j by rw [List.length_take]; omega] at Hc
      have hbad : dqOk l n j = false → T = false := fun hb => HT.out.trans (by
        unfold dq
        rw [Bool.eq_false_iff]
        intro hall
        rw [List.all_eq_true] at hall
        rw [hall j (List.mem_range.2 hlt)] at hb
        cases hb)
      have Hbad := Lib.hid hbad
      clear hy hD hbad
      by_cases h0 : y < 0
      · obtain rfl : T = false := Hbad.out (by rw [HD.out, decide_eq_false (show ¬ (0 ≤ y ∧ y < n) by omega)]; rfl)
        go_wp2_with fail
        go_ret
        exact ⟨rfl, rfl⟩
      · by_cases h1 : y < n
        · have h1' : ¬ n ≤ y := by omega
          by_cases hin : y ∈ l.take j
          · obtain rfl : T = false := Hbad.out (by rw [HD.out, decide_eq_true hin]; simp)
            rw [decide_eq_true hin] at Hc
            clear hin
            go_wp2_with (first | (go_at_call 77; refine (Hc.out).mono ?_; rintro e w1 ⟨rfl, rfl⟩))
            go_ret
            exact ⟨rfl, rfl⟩
          · have Hn2 := Lib.hid (show ∀ m, m < j + 1 → dqOk l n m = true from fun m hm => by
              by_cases he : m = j
              · subst he; rw [HD.out, decide_eq_true (show 0 ≤ y ∧ y < n by omega), decide_eq_false hin]; rfl
              · exact Hn.out m (by omega))
            rw [decide_eq_false hin] at Hc
            clear hin
            go_wp2_with (first | (go_at_call 77; refine (Hc.out).mono ?_; rintro e w1 ⟨rfl, rfl⟩))
            go_roundw
            case rel => exact ⟨j + 1, by omega, by go_num, Hn2, trivial⟩
            case measure => simp [intOf]; omega
        · obtain rfl : T = false := Hbad.out (by rw [HD.out, decide_eq_false (show ¬ (0 ≤ y ∧ y < n) by omega)]; rfl)
          have h1' : n ≤ y := by omega
          go_wp2_with fail
          go_ret
          exact ⟨rfl, rfl⟩
    · obtain rfl : j = l.length := by omega
      obtain rfl : T = true := HT.out.trans (by
        unfold dq
        rw [List.all_eq_true]
        exact fun m hm => Hn.out m (List.mem_range.1 hm))
      go_wp2_with fail
      go_ret
      exact ⟨rfl, rfl⟩
end Go.Proofs.YtkcpemkahkkcmaaGreat
namespace Go.Proofs.YtkcpemkahkkcmaaGreat
open Go.RowKit
/-- The box of a gate lies at B. -/
def GB (w : World) (B : Nat) (g : Gt) (w' : World) : Prop := w'.cell? ⟨B, 0, none⟩ = some (.int .i64 g.k) ∧ w'.cell? ⟨B, 1, none⟩ = some (.int .i64 g.a) ∧ w'.cell? ⟨B, 2, none⟩ = some (.int .i64 g.b) ∧ w'.cell? ⟨B, 3, none⟩ = some (.int .i64 g.c) ∧ B < w'.heap.size ∧ Below w.heap.size w w'
theorem GB.drew {w w1 : World} {B : Nat} {g : Gt} (h : GB w B g w1) : GB w B g w1.drew :=
  let ⟨c0, c1, c2, c3, z0, l⟩ := h; ⟨c0, c1, c2, c3, z0, l.drew⟩
theorem GB.alloc {w w1 : World} {B : Nat} {g : Gt} {o : Obj} (h : GB w B g w1) : GB w B g (w1.alloc o) :=
  let ⟨c0, c1, c2, c3, z0, l⟩ := h
  have e : ∀ k, (w1.alloc o).cell? ⟨B, k, none⟩ = w1.cell? ⟨B, k, none⟩ := fun k => (Below.refl w1.heap.size w1).alloc (Nat.le_refl _) o |>.cell (by exact z0)
  ⟨(e 0).trans c0, (e 1).trans c1, (e 2).trans c2, (e 3).trans c3, by simp; omega, l.alloc l.size o⟩
attribute [local irreducible] World.cell?
set_option maxRecDepth 100000 in
set_option maxHeartbeats 1600000 in
theorem iinvG (g : Gt) (w : World) : Calls Tryz.prog 9 #[(.agg #[.int .i64 g.k, .int .i64 g.a, .int .i64 g.b, .int .i64 g.c])] w fun e w' => e = .returned (.agg #[.int .i64 (invG g).k, .int .i64 (invG g).a, .int .i64 (invG g).b, .int .i64 (invG g).c]) ∧ Below w.heap.size w w' := by
  obtain ⟨k, a, b, c⟩ := g
  have Hk := Lib.hid (fun w => ikind k w)
  rcases kind_cases k with h | h | rfl | h
  · rw [kV_one h] at Hk
    have hk : ar k = 1 := if_pos h
    have h1 := as11
    rw [show invG ⟨k, a, b, c⟩ = ⟨invK k, a, b, c⟩ from rfl]
    clear h hk
    generalize decide (k ≤ 6) = t at *
    generalize invK k = i at *
    go_enter Tryz.func9, Tryz.ntmps9
    go_wp2_with fail
    refine (Hk.out _).mono ?_
    rintro e w1 ⟨rfl, rfl⟩
    go_wp2_with fail
    refine bodyPost_ret (v := (.agg #[.int .i64 (Gt.mk i a b c).k, .int .i64 (Gt.mk i a b c).a, .int .i64 (Gt.mk i a b c).b, .int .i64 (Gt.mk i a b c).c])) (by simp [results, Tryz.results9, go_sem]) rfl ⟨rfl, ?_⟩
    go_grown
  · rw [kV_two h] at Hk
    have hi : invK k = k := by unfold invK; rw [if_neg (by omega), if_neg (by omega), if_neg (by omega), if_neg (by omega)]
    rw [show invG ⟨k, a, b, c⟩ = ⟨k, a, b, c⟩ by unfold invG; rw [hi]]
    have h1 := as21
    clear h hi
    go_enter Tryz.func9, Tryz.ntmps9
    go_wp2_with fail
    refine (Hk.out _).mono ?_
    rintro e w1 ⟨rfl, rfl⟩
    go_wp2_with fail
    refine bodyPost_ret (v := (.agg #[.int .i64 (Gt.mk k a b c).k, .int .i64 (Gt.mk k a b c).a, .int .i64 (Gt.mk k a b c).b, .int .i64 (Gt.mk k a b c).c])) (by simp [results, Tryz.results9, go_sem]) rfl ⟨rfl, ?_⟩
    go_grown
  · have Hk' : Hid (∀ w, Calls Tryz.prog 29 #[.int .i64 12] w fun e w' => e = .returned (.iface 100 (.agg #[])) ∧ w = w') := Hk
    rw [show invG ⟨12, a, b, c⟩ = ⟨12, a, b, c⟩ from rfl]
    clear Hk
    have h1 := as31
    go_enter Tryz.func9, Tryz.ntmps9
    go_wp2_with fail
    refine (Hk'.out _).mono ?_
    rintro e w1 ⟨rfl, rfl⟩
    go_wp2_with fail
    refine bodyPost_ret (v := (.agg #[.int .i64 (Gt.mk 12 a b c).k, .int .i64 (Gt.mk 12 a b c).a, .int .i64 (Gt.mk 12 a b c).b, .int .i64 (Gt.mk 12 a b c).c])) (by simp [results, Tryz.results9, go_sem]) rfl ⟨rfl, ?_⟩
    go_grown
  · rw [kV_no h] at Hk
    have hi : invK k = k := by unfold invK; rw [if_neg (by omega), if_neg (by omega), if_neg (by omega), if_neg (by omega)]
    rw [show invG ⟨k, a, b, c⟩ = ⟨k, a, b, c⟩ by unfold invG; rw [hi]]
    have h1 := as01
    clear h hi
    go_enter Tryz.func9, Tryz.ntmps9
    go_wp2_with fail
    refine (Hk.out _).mono ?_
    rintro e w1 ⟨rfl, rfl⟩
    go_wp2_with fail
    refine bodyPost_ret (v := (.agg #[.int .i64 (Gt.mk k a b c).k, .int .i64 (Gt.mk k a b c).a, .int .i64 (Gt.mk k a b c).b, .int .i64 (Gt.mk k a b c).c])) (by simp [results, Tryz.results9, go_sem]) rfl ⟨rfl, ?_⟩
    go_grown
end Go.Proofs.YtkcpemkahkkcmaaGreat
