/- Draws of gates of the model. -/
import Derived.Test.YtckfklpgnneodaaGtD
import Derived.Test.YtckfklpgnneodaaBaseB04
namespace Go.Proofs.Ytckfklpgnneodaa
open Go.RowKit
def most9 : List Int := [0, 8, 11, 12, 12]
theorem most9_bd (j : Nat) (h1 : 1 ≤ j) (h4 : j ≤ 4) : 1 ≤ most9.getD j 0 ∧ most9.getD j 0 ≤ 12 := by
  rcases (show j = 1 ∨ j = 2 ∨ j = 3 ∨ j = 4 by omega) with rfl | rfl | rfl | rfl <;> decide
def kinds9 : List Int := [4, 7, 5, 8, 9, 9, 9, 9]
theorem list_new9 (w : World) : ListAt (w.alloc (.cells #[.int .i64 4, .int .i64 7, .int .i64 5, .int .i64 8, .int .i64 9, .int .i64 9, .int .i64 9, .int .i64 9] 3)) w.heap.size 8 (fun j => .int .i64 (kinds9.getD j 0)) := by
  refine zlist_at (heap_alloc_new w _) 8 _ fun j hj => ?_
  rcases (show j = 0 ∨ j = 1 ∨ j = 2 ∨ j = 3 ∨ j = 4 ∨ j = 5 ∨ j = 6 ∨ j = 7 by omega) with rfl | rfl | rfl | rfl | rfl | rfl | rfl | rfl <;> rfl
attribute [local irreducible] World.cell?
set_option maxRecDepth 100000 in
set_option maxHeartbeats 3200000 in
theorem gate_any (B n : Nat) (w : World) (hcur : CurAt w B) (hB : B < w.heap.size) (h1 : 1 ≤ n) (h4 : n ≤ 4) :
    Calls Try.prog 61 #[.pointer (some ⟨B, 0, none⟩), .int .i64 n] w fun e w' => (∃ g, e = .returned (.agg #[.int .i64 g.k, .int .i64 g.a, .int .i64 g.b, .int .i64 g.c]) ∧ GtBd g) ∧ CurAt w' B ∧ Own B w w' := by
  have Ha := Lib.hid (fun k w => sar k w)
  have HR := Lib.hid (alloc_blk (.cells #[.int .i64 0, .int .i64 8, .int .i64 11, .int .i64 12, .int .i64 12] 3) (heap_alloc_new w (.cells #[.int .i64 0, .int .i64 0, .int .i64 0, .int .i64 0] 59)))
  have hne : w.heap.size ≠ B := by omega
  have Hb0 := Lib.hid (show Below w.heap.size w ((w.alloc (.cells #[.int .i64 0, .int .i64 0, .int .i64 0, .int .i64 0] 59)).alloc (.cells #[.int .i64 0, .int .i64 8, .int .i64 11, .int .i64 12, .int .i64 12] 3)) by go_grown)
  have hrow : ((w.alloc (.cells #[.int .i64 0, .int .i64 0, .int .i64 0, .int .i64 0] 59)).alloc (.cells #[.int .i64 0, .int .i64 8, .int .i64 11, .int .i64 12, .int .i64 12] 3)).heap[w.heap.size + 1]? = some (.cells #[.int .i64 0, .int .i64 8, .int .i64 11, .int .i64 12, .int .i64 12] 3 (0, 0)) := by
    simpa using heap_alloc_new (w.alloc (.cells #[.int .i64 0, .int .i64 0, .int .i64 0, .int .i64 0] 59)) (.cells #[.int .i64 0, .int .i64 8, .int .i64 11, .int .i64 12, .int .i64 12] 3)
  obtain ⟨m, hm⟩ : ∃ m, m = most9.getD n 0 := ⟨_, rfl⟩
  have hmb := most9_bd n h1 h4
  rw [← hm] at hmb
  have cm := IRow.cell (l := most9) (j := n) (x := m) ⟨_, hrow, rfl⟩ (by rw [hm, List.getD_eq_getElem?_getD, List.getElem?_eq_getElem (show n < most9.length by simp [most9]; omega)]; rfl)
  have Hc0 := Lib.hid (hcur.below Hb0.out hB)
  have Ho0 := Lib.hid (show Own B w _ from own_of_below Hb0.out)
  clear hm hrow hcur
  go_enter Try.func61, Try.ntmps61
  go_wp2_with fail
  refine (below_any B m _ Hc0.out (by omega) (by omega)).mono ?_
  rintro e w1 ⟨⟨x, x0, x1, rfl⟩, hc1, ho1⟩
  have hs1 := ho1.size
  simp at hs1
  have Hc1 := Lib.hid hc1
  have HR1 := Lib.hid (own_blk ho1 hne HR.out)
  have Ho1 := Lib.hid (own_trans Ho0.out ho1)
  clear hc1 ho1 cm Hc0 HR
  go_wp2_with fail
  refine (once_any B 2 _ Hc1.out (by omega) (by omega)).mono ?_
  rintro e w2 ⟨⟨b, rfl⟩, hc2, ho2⟩
  have hs2 := ho2.size
  have Hc2 := Lib.hid hc2
  have HR2 := Lib.hid (own_blk ho2 hne HR1.out)
  have Ho2 := Lib.hid (own_trans Ho1.out ho2)
  clear hc2 ho2 Hc1 HR1
  cases b with
  | false =>
    have HcT := Hc2
    have HRT := HR2
    have HoT := Ho2
    clear Hc2 HR2 Ho2
    have kk0 : 1 ≤ 1 + x := by omega
    have kk1 : 1 + x ≤ 12 := by omega
    go_wp2_with fail
    generalize 1 + x = kk at *

    refine (Ha.out _ _).mono ?_
    rintro e w8 ⟨rfl, rfl⟩
    by_cases har : ar kk ≤ n
    · have hd : decide ((n : Int) < ar kk) = false := decide_eq_false (by omega)
      have hdn : ¬ n < ar kk := by omega
      go_wp2_with fail
      refine (on_any B n kk _ HcT.out (by omega) kk0 kk1 h1 h4 har).mono ?_
      rintro e w9 ⟨⟨g, rfl, hgb⟩, hc9, ho9⟩
      have hR9 := own_blk ho9 hne HRT.out
      have hs9 := ho9.size
      have HoF := Lib.hid (own_trans HoT.out ho9)
      have Hc9 := Lib.hid hc9
      obtain ⟨r0, r1, r2, r3⟩ := blk_cells hR9
      have fR := fun o => free_at hR9 o
      have hRl := lt_of_block hR9
      have HR9 := Lib.hid hR9
      clear hR9 hc9 ho9
      go_wp2_with fail
      obtain ⟨k0', k1', k2', k3'⟩ := blk_cells (set4_at (u0 := .int .i64 g.k) (u1 := .int .i64 g.a) (u2 := .int .i64 g.b) (u3 := .int .i64 g.c) HR9.out)
      refine bodyPost_ret (v := (.agg #[.int .i64 g.k, .int .i64 g.a, .int .i64 g.b, .int .i64 g.c])) (by simp only [results, Try.results61]; simp [go_sem, k0', k1', k2', k3']) rfl ⟨⟨g, rfl, hgb⟩, ?_, ?_⟩
      · refine Hc9.out.below (C := w.heap.size) ?_ hB
        have := Below.refl w9.heap.size w9
        go_grown
      · refine own_under HoF.out (C := w.heap.size) ?_ (Nat.le_refl _)
        have := Below.refl w9.heap.size w9
        go_grown
    · have hd : decide ((n : Int) < ar kk) = true := decide_eq_true (by omega)
      have hdn : n < ar kk := by omega
      go_wp2_with fail
      refine (on_any B n 4 _ HcT.out (by omega) (by decide) (by decide) h1 h4 (by have : ar 4 = 1 := rfl; omega)).mono ?_
      rintro e w9 ⟨⟨g, rfl, hgb⟩, hc9, ho9⟩
      have hR9 := own_blk ho9 hne HRT.out
      have hs9 := ho9.size
      have HoF := Lib.hid (own_trans HoT.out ho9)
      have Hc9 := Lib.hid hc9
      obtain ⟨r0, r1, r2, r3⟩ := blk_cells hR9
      have fR := fun o => free_at hR9 o
      have hRl := lt_of_block hR9
      have HR9 := Lib.hid hR9
      clear hR9 hc9 ho9
      go_wp2_with fail
      obtain ⟨k0', k1', k2', k3'⟩ := blk_cells (set4_at (u0 := .int .i64 g.k) (u1 := .int .i64 g.a) (u2 := .int .i64 g.b) (u3 := .int .i64 g.c) HR9.out)
      refine bodyPost_ret (v := (.agg #[.int .i64 g.k, .int .i64 g.a, .int .i64 g.b, .int .i64 g.c])) (by simp only [results, Try.results61]; simp [go_sem, k0', k1', k2', k3']) rfl ⟨⟨g, rfl, hgb⟩, ?_, ?_⟩
      · refine Hc9.out.below (C := w.heap.size) ?_ hB
        have := Below.refl w9.heap.size w9
        go_grown
      · refine own_under HoF.out (C := w.heap.size) ?_ (Nat.le_refl _)
        have := Below.refl w9.heap.size w9
        go_grown

  | true =>
    have HL := Lib.hid (list_new9 w2)
    have HA2 := Lib.hid (Hc2.out.own (own_alloc (own_refl w2.heap.size w2) (.cells #[.int .i64 4, .int .i64 7, .int .i64 5, .int .i64 8, .int .i64 9, .int .i64 9, .int .i64 9, .int .i64 9] 3)) (by omega))
    go_wp2_with fail
    refine (pickB B w2.heap.size 8 8 kinds9 _ HA2.out HL.out (by omega) (by omega) (by omega) rfl 1 12 (by decide)).mono ?_
    rintro e w3 ⟨⟨kk, kk0, kk1, rfl⟩, hc3, ho3⟩
    have hs3 := ho3.size
    simp at hs3
    have HcT := Lib.hid hc3
    have HRT := Lib.hid (own_blk ho3 hne (alloc_blk _ HR2.out))
    have HoT := Lib.hid (own_trans (own_alloc Ho2.out _) ho3)
    clear hc3 ho3 Hc2 HR2 Ho2
    go_wp2_with fail

    refine (Ha.out _ _).mono ?_
    rintro e w8 ⟨rfl, rfl⟩
    by_cases har : ar kk ≤ n
    · have hd : decide ((n : Int) < ar kk) = false := decide_eq_false (by omega)
      have hdn : ¬ n < ar kk := by omega
      go_wp2_with fail
      refine (on_any B n kk _ HcT.out (by omega) kk0 kk1 h1 h4 har).mono ?_
      rintro e w9 ⟨⟨g, rfl, hgb⟩, hc9, ho9⟩
      have hR9 := own_blk ho9 hne HRT.out
      have hs9 := ho9.size
      have HoF := Lib.hid (own_trans HoT.out ho9)
      have Hc9 := Lib.hid hc9
      obtain ⟨r0, r1, r2, r3⟩ := blk_cells hR9
      have fR := fun o => free_at hR9 o
      have hRl := lt_of_block hR9
      have HR9 := Lib.hid hR9
      clear hR9 hc9 ho9
      go_wp2_with fail
      obtain ⟨k0', k1', k2', k3'⟩ := blk_cells (set4_at (u0 := .int .i64 g.k) (u1 := .int .i64 g.a) (u2 := .int .i64 g.b) (u3 := .int .i64 g.c) HR9.out)
      refine bodyPost_ret (v := (.agg #[.int .i64 g.k, .int .i64 g.a, .int .i64 g.b, .int .i64 g.c])) (by simp only [results, Try.results61]; simp [go_sem, k0', k1', k2', k3']) rfl ⟨⟨g, rfl, hgb⟩, ?_, ?_⟩
      · refine Hc9.out.below (C := w.heap.size) ?_ hB
        have := Below.refl w9.heap.size w9
        go_grown
      · refine own_under HoF.out (C := w.heap.size) ?_ (Nat.le_refl _)
        have := Below.refl w9.heap.size w9
        go_grown
    · have hd : decide ((n : Int) < ar kk) = true := decide_eq_true (by omega)
      have hdn : n < ar kk := by omega
      go_wp2_with fail
      refine (on_any B n 4 _ HcT.out (by omega) (by decide) (by decide) h1 h4 (by have : ar 4 = 1 := rfl; omega)).mono ?_
      rintro e w9 ⟨⟨g, rfl, hgb⟩, hc9, ho9⟩
      have hR9 := own_blk ho9 hne HRT.out
      have hs9 := ho9.size
      have HoF := Lib.hid (own_trans HoT.out ho9)
      have Hc9 := Lib.hid hc9
      obtain ⟨r0, r1, r2, r3⟩ := blk_cells hR9
      have fR := fun o => free_at hR9 o
      have hRl := lt_of_block hR9
      have HR9 := Lib.hid hR9
      clear hR9 hc9 ho9
      go_wp2_with fail
      obtain ⟨k0', k1', k2', k3'⟩ := blk_cells (set4_at (u0 := .int .i64 g.k) (u1 := .int .i64 g.a) (u2 := .int .i64 g.b) (u3 := .int .i64 g.c) HR9.out)
      refine bodyPost_ret (v := (.agg #[.int .i64 g.k, .int .i64 g.a, .int .i64 g.b, .int .i64 g.c])) (by simp only [results, Try.results61]; simp [go_sem, k0', k1', k2', k3']) rfl ⟨⟨g, rfl, hgb⟩, ?_, ?_⟩
      · refine Hc9.out.below (C := w.heap.size) ?_ hB
        have := Below.refl w9.heap.size w9
        go_grown
      · refine own_under HoF.out (C := w.heap.size) ?_ (Nat.le_refl _)
        have := Below.refl w9.heap.size w9
        go_grown
end Go.Proofs.Ytckfklpgnneodaa
