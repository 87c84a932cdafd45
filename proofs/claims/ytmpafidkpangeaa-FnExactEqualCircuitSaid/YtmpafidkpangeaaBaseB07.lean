/- BaseB07: several of our texts in one: GtE GtR GtC MtQ MtC TcG. -/
import Derived.Test.YtmpafidkpangeaaBaseB06
import Derived.Test.YtmpafidkpangeaaBaseB04
import Derived.Test.YtmpafidkpangeaaBaseB05
import Derived.Test.YtmpafidkpangeaaBaseB16
import Derived.Test.YtmpafidkpangeaaBaseB10
namespace Go.Proofs.Ytmpafidkpangeaa
open Go.RowKit
def most9 : List Int := [0, 8, 11, 12, 12]
theorem most9_bd (j : Nat) (h1 : 1 ≤ j) (h4 : j ≤ 4) : 1 ≤ most9.getD j 0 ∧ most9.getD j 0 ≤ 12 := by
  rcases (show j = 1 ∨ j = 2 ∨ j = 3 ∨ j = 4 by omega) with rfl | rfl | rfl | rfl <;> decide
def kinds9 : List Int := [4, 7, 5, 8, 9, 9, 9, 9]
theorem list_new9 (w : World) : ListAt (w.alloc (.cells #[.int .i64 4, .int .i64 7, .int .i64 5, .int .i64 8, .int .i64 9, .int .i64 9, .int .i64 9, .int .i64 9] 3)) w.heap.size 8 (fun j => .int .i64 (kinds9.getD j 0)) := by
  refine zlist_at (heap_alloc_new w _) 8 _ fun j hj => ?_
  rcases (show j = 0 ∨ j = 1 ∨ j = 2 ∨ j = 3 ∨ j = 4 ∨ j = 5 ∨ j = 6 ∨ j = 7 by omega) with rfl | rfl | rfl | rfl | rfl | rfl | rfl | rfl <;> rfl
attribute [local irreducible] World.cell?
set_option maxRecDepth 100000 in
set_option maxHeartbeats 3200000 in
theorem gate_any (B n : Nat) (w : World) (hcur : CurAt w B) (hB : B < w.heap.size) (h1 : 1 ≤ n) (h4 : n ≤ 4) :
    Calls Try.prog 94 #[.pointer (some ⟨B, 0, none⟩), .int .i64 n] w fun e w' => (∃ g, e = .returned (.agg #[.int .i64 g.k, .int .i64 g.a, .int .i64 g.b, .int .i64 g.c]) ∧ GtBd g) ∧ CurAt w' B ∧ Own B w w' := by
  have Ha := Lib.hid (fun k w => sar k w)
  have HR := Lib.hid (alloc_blk (.cells #[.int .i64 0, .int .i64 8, .int .i64 11, .int .i64 12, .int .i64 12] 3) (heap_alloc_new w (.cells #[.int .i64 0, .int .i64 0, .int .i64 0, .int .i64 0] 44)))
  have hne : w.heap.size ≠ B := by omega
  have Hb0 := Lib.hid (show Below w.heap.size w ((w.alloc (.cells #[.int .i64 0, .int .i64 0, .int .i64 0, .int .i64 0] 44)).alloc (.cells #[.int .i64 0, .int .i64 8, .int .i64 11, .int .i64 12, .int .i64 12] 3)) by go_grown)
  have hrow : ((w.alloc (.cells #[.int .i64 0, .int .i64 0, .int .i64 0, .int .i64 0] 44)).alloc (.cells #[.int .i64 0, .int .i64 8, .int .i64 11, .int .i64 12, .int .i64 12] 3)).heap[w.heap.size + 1]? = some (.cells #[.int .i64 0, .int .i64 8, .int .i64 11, .int .i64 12, .int .i64 12] 3 (0, 0)) := by
    simpa using heap_alloc_new (w.alloc (.cells #[.int .i64 0, .int .i64 0, .int .i64 0, .int .i64 0] 44)) (.cells #[.int .i64 0, .int .i64 8, .int .i64 11, .int .i64 12, .int .i64 12] 3)
  obtain ⟨m, hm⟩ : ∃ m, m = most9.getD n 0 := ⟨_, rfl⟩
  have hmb := most9_bd n h1 h4
  rw [← hm] at hmb
  have cm := IRow.cell (l := most9) (j := n) (x := m) ⟨_, hrow, rfl⟩ (by rw [hm, List.getD_eq_getElem?_getD, List.getElem?_eq_getElem (show n < most9.length by simp [most9]; omega)]; rfl)
  have Hc0 := Lib.hid (hcur.below Hb0.out hB)
  have Ho0 := Lib.hid (show Own B w _ from own_of_below Hb0.out)
  clear hm hrow hcur
  go_enter Try.func94, Try.ntmps94
  go_wp2_with fail
  refine (below_any B m _ Hc0.out (by omega) (by omega)).mono ?_
  rintro e w1 ⟨⟨x, x0, x1, rfl⟩, hc1, ho1⟩
  have hs1 := ho1.size
  simp at hs1
  have Hc1 := Lib.hid hc1
  have HR1 := Lib.hid (own_blk ho1 hne HR.out)
  have Ho1 := Lib.hid (own_trans Ho0.out ho1)
  clear hc1 ho1 cm Hc0 HR
  go_wp2_with fail
  refine (once_any B 2 _ Hc1.out (by omega) (by omega)).mono ?_
  rintro e w2 ⟨⟨b, rfl⟩, hc2, ho2⟩
  have hs2 := ho2.size
  have Hc2 := Lib.hid hc2
  have HR2 := Lib.hid (own_blk ho2 hne HR1.out)
  have Ho2 := Lib.hid (own_trans Ho1.out ho2)
  clear hc2 ho2 Hc1 HR1
  cases b with
  | false =>
    have HcT := Hc2
    have HRT := HR2
    have HoT := Ho2
    clear Hc2 HR2 Ho2
    have kk0 : 1 ≤ 1 + x := by omega
    have kk1 : 1 + x ≤ 12 := by omega
    go_wp2_with fail
    generalize 1 + x = kk at *

    refine (Ha.out _ _).mono ?_
    rintro e w8 ⟨rfl, rfl⟩
    by_cases har : ar kk ≤ n
    · have hd : decide ((n : Int) < ar kk) = false := decide_eq_false (by omega)
      have hdn : ¬ n < ar kk := by omega
      go_wp2_with fail
      refine (on_any B n kk _ HcT.out (by omega) kk0 kk1 h1 h4 har).mono ?_
      rintro e w9 ⟨⟨g, rfl, hgb⟩, hc9, ho9⟩
      have hR9 := own_blk ho9 hne HRT.out
      have hs9 := ho9.size
      have HoF := Lib.hid (own_trans HoT.out ho9)
      have Hc9 := Lib.hid hc9
      obtain ⟨r0, r1, r2, r3⟩ := blk_cells hR9
      have fR := fun o => free_at hR9 o
      have hRl := lt_of_block hR9
      have HR9 := Lib.hid hR9
      clear hR9 hc9 ho9
      go_wp2_with fail
      obtain ⟨k0', k1', k2', k3'⟩ := blk_cells (set4_at (u0 := .int .i64 g.k) (u1 := .int .i64 g.a) (u2 := .int .i64 g.b) (u3 := .int .i64 g.c) HR9.out)
      refine bodyPost_ret (v := (.agg #[.int .i64 g.k, .int .i64 g.a, .int .i64 g.b, .int .i64 g.c])) (by simp only [results, Try.results94]; simp [go_sem, k0', k1', k2', k3']) rfl ⟨⟨g, rfl, hgb⟩, ?_, ?_⟩
      · refine Hc9.out.below (C := w.heap.size) ?_ hB
        have := Below.refl w9.heap.size w9
        go_grown
      · refine own_under HoF.out (C := w.heap.size) ?_ (Nat.le_refl _)
        have := Below.refl w9.heap.size w9
        go_grown
    · have hd : decide ((n : Int) < ar kk) = true := decide_eq_true (by omega)
      have hdn : n < ar kk := by omega
      go_wp2_with fail
      refine (on_any B n 4 _ HcT.out (by omega) (by decide) (by decide) h1 h4 (by have : ar 4 = 1 := rfl; omega)).mono ?_
      rintro e w9 ⟨⟨g, rfl, hgb⟩, hc9, ho9⟩
      have hR9 := own_blk ho9 hne HRT.out
      have hs9 := ho9.size
      have HoF := Lib.hid (own_trans HoT.out ho9)
      have Hc9 := Lib.hid hc9
      obtain ⟨r0, r1, r2, r3⟩ := blk_cells hR9
      have fR := fun o => free_at hR9 o
      have hRl := lt_of_block hR9
      have HR9 := Lib.hid hR9
      clear hR9 hc9 ho9
      go_wp2_with fail
      obtain ⟨k0', k1', k2', k3'⟩ := blk_cells (set4_at (u0 := .int .i64 g.k) (u1 := .int .i64 g.a) (u2 := .int .i64 g.b) (u3 := .int .i64 g.c) HR9.out)
      refine bodyPost_ret (v := (.agg #[.int .i64 g.k, .int .i64 g.a, .int .i64 g.b, .int .i64 g.c])) (by simp only [results, Try.results94]; simp [go_sem, k0', k1', k2', k3']) rfl ⟨⟨g, rfl, hgb⟩, ?_, ?_⟩
      · refine Hc9.out.below (C := w.heap.size) ?_ hB
        have := Below.refl w9.heap.size w9
        go_grown
      · refine own_under HoF.out (C := w.heap.size) ?_ (Nat.le_refl _)
        have := Below.refl w9.heap.size w9
        go_grown

  | true =>
    have HL := Lib.hid (list_new9 w2)
    have HA2 := Lib.hid (Hc2.out.own (own_alloc (own_refl w2.heap.size w2) (.cells #[.int .i64 4, .int .i64 7, .int .i64 5, .int .i64 8, .int .i64 9, .int .i64 9, .int .i64 9, .int .i64 9] 3)) (by omega))
    go_wp2_with fail
    refine (pickB B w2.heap.size 8 8 kinds9 _ HA2.out HL.out (by omega) (by omega) (by omega) rfl 1 12 (by decide)).mono ?_
    rintro e w3 ⟨⟨kk, kk0, kk1, rfl⟩, hc3, ho3⟩
    have hs3 := ho3.size
    simp at hs3
    have HcT := Lib.hid hc3
    have HRT := Lib.hid (own_blk ho3 hne (alloc_blk _ HR2.out))
    have HoT := Lib.hid (own_trans (own_alloc Ho2.out _) ho3)
    clear hc3 ho3 Hc2 HR2 Ho2
    go_wp2_with fail

    refine (Ha.out _ _).mono ?_
    rintro e w8 ⟨rfl, rfl⟩
    by_cases har : ar kk ≤ n
    · have hd : decide ((n : Int) < ar kk) = false := decide_eq_false (by omega)
      have hdn : ¬ n < ar kk := by omega
      go_wp2_with fail
      refine (on_any B n kk _ HcT.out (by omega) kk0 kk1 h1 h4 har).mono ?_
      rintro e w9 ⟨⟨g, rfl, hgb⟩, hc9, ho9⟩
      have hR9 := own_blk ho9 hne HRT.out
      have hs9 := ho9.size
      have HoF := Lib.hid (own_trans HoT.out ho9)
      have Hc9 := Lib.hid hc9
      obtain ⟨r0, r1, r2, r3⟩ := blk_cells hR9
      have fR := fun o => free_at hR9 o
      have hRl := lt_of_block hR9
      have HR9 := Lib.hid hR9
      clear hR9 hc9 ho9
      go_wp2_with fail
      obtain ⟨k0', k1', k2', k3'⟩ := blk_cells (set4_at (u0 := .int .i64 g.k) (u1 := .int .i64 g.a) (u2 := .int .i64 g.b) (u3 := .int .i64 g.c) HR9.out)
      refine bodyPost_ret (v := (.agg #[.int .i64 g.k, .int .i64 g.a, .int .i64 g.b, .int .i64 g.c])) (by simp only [results, Try.results94]; simp [go_sem, k0', k1', k2', k3']) rfl ⟨⟨g, rfl, hgb⟩, ?_, ?_⟩
      · refine Hc9.out.below (C := w.heap.size) ?_ hB
        have := Below.refl w9.heap.size w9
        go_grown
      · refine own_under HoF.out (C := w.heap.size) ?_ (Nat.le_refl _)
        have := Below.refl w9.heap.size w9
        go_grown
    · have hd : decide ((n : Int) < ar kk) = true := decide_eq_true (by omega)
      have hdn : n < ar kk := by omega
      go_wp2_with fail
      refine (on_any B n 4 _ HcT.out (by omega) (by decide) (by decide) h1 h4 (by have : ar 4 = 1 := rfl; omega)).mono ?_
      rintro e w9 ⟨⟨g, rfl, hgb⟩, hc9, ho9⟩
      have hR9 := own_blk ho9 hne HRT.out
      have hs9 := ho9.size
      have HoF := Lib.hid (own_trans HoT.out ho9)
      have Hc9 := Lib.hid hc9
      obtain ⟨r0, r1, r2, r3⟩ := blk_cells hR9
      have fR := fun o => free_at hR9 o
      have hRl := lt_of_block hR9
      have HR9 := Lib.hid hR9
      clear hR9 hc9 ho9
      go_wp2_with fail
      obtain ⟨k0', k1', k2', k3'⟩ := blk_cells (set4_at (u0 := .int .i64 g.k) (u1 := .int .i64 g.a) (u2 := .int .i64 g.b) (u3 := .int .i64 g.c) HR9.out)
      refine bodyPost_ret (v := (.agg #[.int .i64 g.k, .int .i64 g.a, .int .i64 g.b, .int .i64 g.c])) (by simp only [results, Try.results94]; simp [go_sem, k0', k1', k2', k3']) rfl ⟨⟨g, rfl, hgb⟩, ?_, ?_⟩
      · refine Hc9.out.below (C := w.heap.size) ?_ hB
        have := Below.refl w9.heap.size w9
        go_grown
      · refine own_under HoF.out (C := w.heap.size) ?_ (Nat.le_refl _)
        have := Below.refl w9.heap.size w9
        go_grown
end Go.Proofs.Ytmpafidkpangeaa
namespace Go.Proofs.Ytmpafidkpangeaa
open Go.RowKit
theorem infoGt : (Try.prog.info? 44).map (fun i => (i.zero, i.size, i.bytes)) = some (some (.agg #[.int .i64 0, .int .i64 0, .int .i64 0, .int .i64 0]), 4, 32) := by kernel_rfl
theorem blk_cells2 {g : Nat} {W : World} {t : TypeId} {z0 z1 : Value} (h : W.heap[g]? = some (.cells #[z0, z1] t (0, 0))) : W.cell? ⟨g, 0, none⟩ = some z0 ∧ W.cell? ⟨g, 1, none⟩ = some z1 := ⟨cell_at h 0 _ rfl, cell_at h 1 _ rfl⟩
theorem grown_blk {w w' : World} {row : Option Nat} {b : Nat} {o : Obj} (hg : w.grownBy w' row) (h : w.heap[b]? = some o) (hne : some b ≠ row) : w'.heap[b]? = some o := (hg.block b (lt_of_block h) hne).trans h
theorem row_set1 {w : World} {base : Nat} {e : TypeId} {size : Nat} {v : Value} {n g off : Nat} {xs : List Value} {u : Value} (h : w.ownsRow base e size v n xs) (hn : ∀ k, v.ownBlock = some k → k ≠ g) : (w.setCell ⟨g, off, none⟩ u).ownsRow base e size v n xs := by
  obtain ⟨h1, h2⟩ := h
  refine ⟨h1, ?_⟩
  rcases h2 with h2 | ⟨g', cap, cur, a, b, c, d⟩
  · exact .inl h2
  · exact .inr ⟨g', cap, cur, a, b, set1_blk (hn g' (by rw [a]; rfl)) c, d⟩
theorem sl_set1 {α : Type} {E : Enc α} {w : World} {B g off : Nat} {v : Value} {l : List α} {u : Value} (h : E.Sl w B v l) (hg : g < B) : E.Sl (w.setCell ⟨g, off, none⟩ u) B v l :=
  h.block fun k hk _ => Below.heap_setCell _ _ _ _ (by show k ≠ g; omega)
attribute [local irreducible] World.cell?
set_option maxRecDepth 100000 in
set_option maxHeartbeats 6400000 in
theorem rightO_any (B n m : Nat) (w : World) (hcur : CurAt w B) (hB : B < w.heap.size) (h1 : 1 ≤ n) (h4 : n ≤ 4) (hm : m ≤ 60) :
    Calls Try.prog 59 #[.pointer (some ⟨B, 0, none⟩), .int .i64 n, .int .i64 m] w fun e w' => (∃ v l, e = .returned (.agg #[.int .i64 n, v]) ∧ List.length l ≤ m ∧ (∀ g ∈ l, GtBd g) ∧ w'.ownsRow (w.heap.size + 2) 44 4 v l.length (gtE.flat l)) ∧ CurAt w' B ∧ Own B w w' := by
  obtain ⟨i0, hi, hz0, hz1, hz2⟩ := info_parts infoGt
  have HR := Lib.hid (alloc_blk (.cells #[.int .i64 (n : Int), .slice none 0 0] 26) (heap_alloc_new w (.cells #[.int .i64 0, .slice none 0 0] 26)))
  have HG := Lib.hid (show ((w.alloc (.cells #[.int .i64 0, .slice none 0 0] 26)).alloc (.cells #[.int .i64 (n : Int), .slice none 0 0] 26)).heap[w.heap.size + 1]? = some (.cells #[.int .i64 (n : Int), .slice none 0 0] 26 (0, 0)) by
    simpa using heap_alloc_new (w.alloc (.cells #[.int .i64 0, .slice none 0 0] 26)) (.cells #[.int .i64 (n : Int), .slice none 0 0] 26))
  have Hb0 := Lib.hid (show Below w.heap.size w ((w.alloc (.cells #[.int .i64 0, .slice none 0 0] 26)).alloc (.cells #[.int .i64 (n : Int), .slice none 0 0] 26)) by go_grown)
  have Hc0 := Lib.hid (hcur.below Hb0.out hB)
  have Ho0 := Lib.hid (show Own B w _ from own_of_below Hb0.out)
  have hRB : w.heap.size ≠ B := by omega
  have hGB : w.heap.size + 1 ≠ B := by omega
  clear hcur
  go_enter Try.func59, Try.ntmps59
  go_wp2_with fail
  refine (below_any B ((m : Int) + 1) _ Hc0.out (by omega) (by omega)).mono ?_
  rintro e w1 ⟨⟨x, x0, x1, rfl⟩, hc1, ho1⟩
  obtain ⟨x, rfl⟩ : ∃ q : Nat, x = q := ⟨x.toNat, by omega⟩
  have hs1 := ho1.size
  simp at hs1
  have Hc1 := Lib.hid hc1
  have HR1 := Lib.hid (own_blk ho1 hRB HR.out)
  have HG1 := Lib.hid (own_blk ho1 hGB HG.out)
  have Ho1 := Lib.hid (own_trans Ho0.out ho1)
  clear hc1 ho1 Hc0 Ho0 HR HG
  go_wp2_with fail
  go_loopg [9] x (fun m' i wr => ∃ (j : Nat) (l : List Gt) (ov : Value), m' = x - j ∧ j ≤ x ∧ i = .int .i64 j ∧ l.length = j ∧ Hid (∀ g ∈ l, GtBd g) ∧ Hid (wr.ownsRow (w.heap.size + 2) 44 4 ov j (gtE.flat l)) ∧ Hid (wr.heap[w.heap.size + 1]? = some (.cells #[.int .i64 (n : Int), ov] 26 (0, 0))) ∧ Hid (wr.heap[w.heap.size]? = some (.cells #[.int .i64 0, .slice none 0 0] 26 (0, 0))) ∧ Hid (CurAt wr B) ∧ Hid (Own B w wr) ∧ w.heap.size + 2 ≤ wr.heap.size)
  case atStart => exact ⟨0, [], .slice none 0 0, rfl, Nat.zero_le _, rfl, rfl, Lib.hid (fun g h => absurd h List.not_mem_nil), Lib.hid (World.ownsRow_nil _ _ _ _), HG1, HR1, Hc1, Ho1, by omega⟩
  case round =>
    obtain ⟨j, l, ov, rfl, hj, rfl, hl, Hbd, Hown, HGr, HRr, Hc, Ho, hsz⟩ := hrel
    by_cases hlt : j < x
    · obtain ⟨g0, g1⟩ := blk_cells2 HGr.out
      have fG := fun o => free_at HGr.out o
      have hGl := lt_of_block HGr.out
      go_upto_region 6 with fail
      have HGd := Lib.hid (show wr.drew.heap[w.heap.size + 1]? = some (.cells #[.int .i64 (n : Int), ov] 26 (0, 0)) from HGr.out)
      have HRd := Lib.hid (show wr.drew.heap[w.heap.size]? = some (.cells #[.int .i64 0, .slice none 0 0] 26 (0, 0)) from HRr.out)
      have Hod := Lib.hid Hown.out.drew
      have Hcd := Lib.hid (gate_any B n wr.drew Hc.out.drew (by show B < wr.heap.size; omega) h1 h4)
      go_region_law? (first
        | ((go_simp; go_at_call 94; (with_reducible refine (Hcd.out).mono ?_); rintro e w2 ⟨⟨g, rfl, hgb⟩, hc2, ho2⟩; have hG2 := own_blk ho2 hGB HGd.out; obtain ⟨p0, p1⟩ := blk_cells2 hG2; have fG2 := fun o => free_at hG2 o; have hGl2 := lt_of_block hG2; have Hown2 := Lib.hid (row_own Hod.out ho2 (by omega))))
        | ((refine step_append_lies _ (by rfl) _ _ _ (by rfl) (w.heap.size + 2) 44 i0 (.agg #[.int .i64 0, .int .i64 0, .int .i64 0, .int .i64 0]) 4 32 Try.underlying24 hi hz0 hz1 hz2 rfl (by decide) ov j (gtE.flat l) (by go_simp) (Hown2.out.alloc (.cells #[.int .i64 g.k, .int .i64 g.a, .int .i64 g.b, .int .i64 g.c] 44)) ⟨w2.heap.size, 0, none⟩ 1 1 (gtE.fl g) (by go_simp) rfl (Enc.new_row (E := gtE) w2 g _ rfl) (gtE.one g) (by decide) (by unfold maxLen; omega) (by omega) (by simp; omega) (w2.heap.size + 1) (by simp) ?_; intro gg cap w3 hown3 hgrow hat hlt3; have hG3 := grown_blk hgrow (alloc_blk (.cells #[.int .i64 g.k, .int .i64 g.a, .int .i64 g.b, .int .i64 g.c] 44) hG2) (fun e => by have := (Hown2.out.lt _ e.symm).1; omega); obtain ⟨q0, q1⟩ := blk_cells2 hG3; have fG3 := fun o => free_at hG3 o; have hGl3 := lt_of_block hG3)))
      all_goals
        have hs2 := ho2.size
        have hR2 := own_blk ho2 hRB HRd.out
        have HR3 := Lib.hid (grown_blk hgrow (alloc_blk (.cells #[.int .i64 g.k, .int .i64 g.a, .int .i64 g.b, .int .i64 g.c] 44) hR2) (fun e => by have := (Hown2.out.lt _ e.symm).1; omega))
        have hb3 : Below (w.heap.size + 2) w2 w3 := ((Below.refl (w.heap.size + 2) w2).alloc (by have : wr.drew.heap.size = wr.heap.size := rfl; omega) (.cells #[.int .i64 g.k, .int .i64 g.a, .int .i64 g.b, .int .i64 g.c] 44)).grown hgrow (by simp; have : wr.drew.heap.size = wr.heap.size := rfl; omega) (fun q hq => (Hown2.out.lt q hq).1)
        have Hbd3 := Lib.hid (show ∀ g' ∈ l ++ [g], GtBd g' from fun g' h => by
          rcases List.mem_append.1 h with h | h
          · exact Hbd.out g' h
          · obtain rfl := List.mem_singleton.1 h; exact hgb)
        rw [gtE.flat_snoc] at hown3
        have Hown3 := Lib.hid hown3
        have HG3 := Lib.hid (heap_set hG3 1 (.slice (some ⟨gg, 0, none⟩) (j + 1) cap))
        have HG3 := Lib.hid hG3
        go_wp2_with fail
        go_roundg (x - (j + 1))
        case measure => omega
        case rel =>
          refine ⟨j + 1, l ++ [g], _, rfl, by omega, by go_num, by simp [hl], Hbd3, ?_, heap_set HG3.out 1 (.slice (some ⟨gg, 0, none⟩) (j + 1) cap), ?_, ?_, ?_, ?_⟩
          · exact row_set1 Hown3.out fun k hk => by have := (Hown3.out.lt k hk).1; omega
          · exact set1_blk (by omega) HR3.out
          · exact Lib.hid ((hc2.below hb3 (by omega)).own (C := w.heap.size + 1) (own_set (own_refl (w.heap.size + 1) w3) 1 _) (by omega))
          · exact Lib.hid (own_dn (own_under (own_trans Ho.out (show Own B wr w2 from ⟨ho2.os, ho2.tape, ho2.output, ho2.size, ho2.block⟩)) hb3 (by omega)) 1 _ (by omega))
          · have h5 := hb3.size
            have h6 : wr.drew.heap.size = wr.heap.size := rfl
            simp [World.setCell]
            omega
    · obtain rfl : j = x := by omega
      obtain ⟨p, c, rfl⟩ : ∃ p c, ov = .slice p j c := by
        rcases Hown.out.2 with ⟨rfl, h⟩ | ⟨g, cap, cur, rfl, _⟩
        · exact ⟨none, 0, by rw [h]⟩
        · exact ⟨_, _, rfl⟩
      obtain ⟨g0, g1⟩ := blk_cells2 HGr.out
      obtain ⟨r0, r1⟩ := blk_cells2 HRr.out
      have fR := fun o => free_at HRr.out o
      have hGl := lt_of_block HGr.out
      have hRl := lt_of_block HRr.out
      have Hs := Lib.hid (row_set1 (g := w.heap.size) (off := 1) (u := .slice p j c) (row_set1 (g := w.heap.size) (off := 0) (u := .int .i64 (n : Int)) Hown.out fun k hk => by have := (Hown.out.lt k hk).1; omega) fun k hk => by have := (Hown.out.lt k hk).1; omega)
      go_wp2_with fail
      obtain ⟨k0', k1'⟩ := blk_cells2 (heap_set (heap_set HRr.out 0 (.int .i64 (n : Int))) 1 (.slice p j c))
      refine bodyPost_ret (v := .agg #[.int .i64 (n : Int), .slice p j c]) (by simp only [results, Try.results59]; simp [go_sem, k0', k1']) rfl ⟨⟨.slice p j c, l, rfl, by omega, Hbd.out, by rw [hl]; exact Hs.out⟩, ?_, ?_⟩
      · exact Hc.out.own (C := w.heap.size) (own_set (own_set (own_refl w.heap.size wr) 0 _) 1 _) hB
      · exact own_dn (own_dn Ho.out 0 _ (Nat.le_refl _)) 1 _ (Nat.le_refl _)
theorem right_any (B n m : Nat) (w : World) (hcur : CurAt w B) (hB : B < w.heap.size) (h1 : 1 ≤ n) (h4 : n ≤ 4) (hm : m ≤ 60) :
    Calls Try.prog 59 #[.pointer (some ⟨B, 0, none⟩), .int .i64 n, .int .i64 m] w fun e w' => (∃ v l, e = .returned (.agg #[.int .i64 n, v]) ∧ List.length l ≤ m ∧ (∀ g ∈ l, GtBd g) ∧ gtE.Sl w' w.heap.size v l) ∧ CurAt w' B ∧ Own B w w' := by
  refine (rightO_any B n m w hcur hB h1 h4 hm).mono ?_
  rintro e w1 ⟨⟨v, l, rfl, hl, hb, ho⟩, hc, hw⟩
  exact ⟨⟨v, l, rfl, hl, hb, (Enc.Sl.of_own (E := gtE) (l := l) ho).mono (by omega)⟩, hc, hw⟩
end Go.Proofs.Ytmpafidkpangeaa
namespace Go.Proofs.Ytmpafidkpangeaa
open Go.RowKit
/-- IsValidCircuit. -/
def ciB (n : Int) (l : List Gt) : Bool := l.all (fun g => gtB g n) && (decide (1 ≤ n ∧ n ≤ 4) && decide (l.length ≤ 60))
/-- A circuit's box and one of its gates. -/
def GS (w : World) (C g j : Nat) (n : Int) (v : Value) (x : Gt) (w' : World) : Prop :=
  w'.cell? ⟨C, 0, none⟩ = some (.int .i64 n) ∧ w'.cell? ⟨C, 1, none⟩ = some v ∧ w'.cell? ⟨g, j * 4, none⟩ = some (.int .i64 x.k) ∧ w'.cell? ⟨g, j * 4 + 1, none⟩ = some (.int .i64 x.a) ∧ w'.cell? ⟨g, j * 4 + 2, none⟩ = some (.int .i64 x.b) ∧ w'.cell? ⟨g, j * 4 + 3, none⟩ = some (.int .i64 x.c) ∧ C < w'.heap.size ∧ g < w'.heap.size ∧ Below w.heap.size w w'
theorem GS.drew {w w' : World} {C g j : Nat} {n : Int} {v : Value} {x : Gt} (h : GS w C g j n v x w') : GS w C g j n v x w'.drew :=
  let ⟨a0, a1, b0, b1, b2, b3, z, z', l⟩ := h; ⟨a0, a1, b0, b1, b2, b3, z, z', l.drew⟩
theorem GS.below {w w1 w2 : World} {C g j : Nat} {n : Int} {v : Value} {x : Gt} (h : GS w C g j n v x w1) (hb : Below w1.heap.size w1 w2) : GS w C g j n v x w2 :=
  let ⟨a0, a1, b0, b1, b2, b3, z, z', l⟩ := h
  ⟨cell_below a0 hb z, cell_below a1 hb z, cell_below b0 hb z', cell_below b1 hb z', cell_below b2 hb z', cell_below b3 hb z', Nat.lt_of_lt_of_le z hb.size, Nat.lt_of_lt_of_le z' hb.size, below_up l hb l.size⟩
theorem GRow.cells {w : World} {g : Nat} {l : List Gt} (h : gtE.Row w g l) {j : Nat} {x : Gt} (hx : l[j]? = some x) :
    w.cell? ⟨g, j * 4, none⟩ = some (.int .i64 x.k) ∧ w.cell? ⟨g, j * 4 + 1, none⟩ = some (.int .i64 x.a) ∧ w.cell? ⟨g, j * 4 + 2, none⟩ = some (.int .i64 x.b) ∧ w.cell? ⟨g, j * 4 + 3, none⟩ = some (.int .i64 x.c) :=
  ⟨h.at hx (k := 0) rfl, h.at hx (k := 1) rfl, h.at hx (k := 2) rfl, h.at hx (k := 3) rfl⟩
attribute [local irreducible] World.cell?
set_option maxRecDepth 100000 in
set_option maxHeartbeats 3200000 in
theorem svalidC (B : Nat) (n : Int) (v : Value) (l : List Gt) (w : World) (hv : gtE.Sl w B v l) (hm : l.length ≤ 1048576) :
    Calls Try.prog 17 #[.agg #[.int .i64 n, v]] w fun e w' => e = .returned (.bool (ciB n l)) ∧ Below w.heap.size w w' := by
  obtain ⟨a, cap, rfl, hcap, hr⟩ := hv
  have Hr := Lib.hid hr
  clear hr
  have HC0 := Lib.hid (heap_alloc_new w (.cells #[.int .i64 n, .slice a l.length cap] 26))
  have Hb0 := Lib.hid (show Below w.heap.size w (w.alloc (.cells #[.int .i64 n, .slice a l.length cap] 26)) by go_grown)
  obtain ⟨T, hT⟩ : ∃ T, T = ciB n l := ⟨_, rfl⟩
  rw [← hT]
  have HT := Lib.hid (hT.trans (show ciB n l = (l.all (fun g => gtB g n) && (decide (1 ≤ n ∧ n ≤ 4) && decide (l.length ≤ 60))) from rfl))
  clear hT
  go_enter Try.func17, Try.ntmps17
  go_wp2_with fail
  go_loopg [3] l.length (fun m i wr => ∃ j : Nat, m = l.length - j ∧ j ≤ l.length ∧ i = .int .i64 j ∧ Hid ((l.take j).all (fun g => gtB g n) = true) ∧ Hid (wr.heap[w.heap.size]? = some (.cells #[.int .i64 n, .slice a l.length cap] 26 (0, 0))) ∧ Hid (Below w.heap.size w wr))
  case atStart => exact ⟨0, rfl, Nat.zero_le _, rfl, rfl, HC0, Hb0⟩
  case round =>
    obtain ⟨j, rfl, hj, rfl, Hyes, HC, Hb⟩ := hrel
    obtain ⟨p0, p1⟩ := blk_cells2 HC.out
    have hCl := lt_of_block HC.out
    by_cases hlt : j < l.length
    · obtain ⟨g, rfl, _, hrow⟩ := Hr.out (by omega)
      obtain ⟨x, hx⟩ : ∃ x, l[j]? = some x := ⟨l[j], List.getElem?_eq_getElem hlt⟩
      have r1 := hrow.below Hb.out hrow.lt
      obtain ⟨c0, c1, c2, c3⟩ := GRow.cells r1 hx
      have hgl := r1.lt
      have Hv := Lib.hid (svalidG x n)
      have Hat := Lib.hid (all_take (p := fun g => gtB g n) hx Hyes.out)
      have Hno := Lib.hid (fun h => all_no (p := fun g => gtB g n) hx h)
      have hS : GS wr w.heap.size g j n (.slice (some ⟨g, 0, none⟩) l.length cap) x wr := ⟨p0, p1, c0, c1, c2, c3, hCl, hgl, Below.refl _ _⟩
      clear hrow r1 hx
      cases hok : gtB x n with
      | false =>
        rw [hok] at Hv Hno
        obtain rfl : T = false := HT.out.trans (by rw [Hno.out rfl]; rfl)
        clear hok
        go_upto_region 4 with fail
        go_region_held3 (fun w' => w'.cell? ⟨w.heap.size, 0, none⟩ = some (.int .i64 n) ∧ w'.cell? ⟨w.heap.size, 1, none⟩ = some (.slice (some ⟨g, 0, none⟩) l.length cap) ∧ w'.cell? ⟨g, j * 4, none⟩ = some (.int .i64 x.k) ∧ w'.cell? ⟨g, j * 4 + 1, none⟩ = some (.int .i64 x.a) ∧ w'.cell? ⟨g, j * 4 + 2, none⟩ = some (.int .i64 x.b) ∧ w'.cell? ⟨g, j * 4 + 3, none⟩ = some (.int .i64 x.c) ∧ w.heap.size < w'.heap.size ∧ g < w'.heap.size ∧ Below wr.heap.size wr w') (first | (show GS wr w.heap.size g j n (.slice (some ⟨g, 0, none⟩) l.length cap) x _; (with_reducible exact hS.drew)) | (show GS wr w.heap.size g j n (.slice (some ⟨g, 0, none⟩) l.length cap) x _; (with_reducible refine GS.below ?_ hbR); first | assumption | exact ⟨by assumption, by assumption, by assumption, by assumption, by assumption, by assumption, by assumption, by assumption, by assumption⟩))
          (first | (go_at_call 52; (with_reducible refine (Hv.out _).mono ?_); rintro e wR ⟨rfl, hbR⟩))
        have Hb2 := Lib.hid (below_up Hb.out.drew hbR Hb.out.size)
        go_wp2_with fail
        go_ret
        exact ⟨rfl, Hb2.out⟩
      | true =>
        rw [hok] at Hv Hat
        clear hok
        go_upto_region 4 with fail
        go_region_held3 (fun w' => w'.cell? ⟨w.heap.size, 0, none⟩ = some (.int .i64 n) ∧ w'.cell? ⟨w.heap.size, 1, none⟩ = some (.slice (some ⟨g, 0, none⟩) l.length cap) ∧ w'.cell? ⟨g, j * 4, none⟩ = some (.int .i64 x.k) ∧ w'.cell? ⟨g, j * 4 + 1, none⟩ = some (.int .i64 x.a) ∧ w'.cell? ⟨g, j * 4 + 2, none⟩ = some (.int .i64 x.b) ∧ w'.cell? ⟨g, j * 4 + 3, none⟩ = some (.int .i64 x.c) ∧ w.heap.size < w'.heap.size ∧ g < w'.heap.size ∧ Below wr.heap.size wr w') (first | (show GS wr w.heap.size g j n (.slice (some ⟨g, 0, none⟩) l.length cap) x _; (with_reducible exact hS.drew)) | (show GS wr w.heap.size g j n (.slice (some ⟨g, 0, none⟩) l.length cap) x _; (with_reducible refine GS.below ?_ hbR); first | assumption | exact ⟨by assumption, by assumption, by assumption, by assumption, by assumption, by assumption, by assumption, by assumption, by assumption⟩))
          (first | (go_at_call 52; (with_reducible refine (Hv.out _).mono ?_); rintro e wR ⟨rfl, hbR⟩))
        have Hb2 := Lib.hid (below_up Hb.out.drew hbR Hb.out.size)
        have HC2 := Lib.hid (below_blk hbR (by show w.heap.size < wr.heap.size; exact hCl) (show wr.drew.heap[w.heap.size]? = _ from HC.out))
        go_wp2_with fail
        go_roundg (l.length - (j + 1))
        case measure => omega
        case rel => exact ⟨j + 1, rfl, by omega, by go_num, Hat, HC2, Hb2⟩
    · obtain rfl : j = l.length := by omega
      have hall := Hyes.out
      rw [List.take_length] at hall
      have hT := HT.out
      rw [hall, Bool.true_and] at hT
      by_cases hn : 1 ≤ n ∧ n ≤ 4
      · have H := Lib.hid (fun W => lin_any n 1 4 true W (decide_eq_true hn))
        rw [decide_eq_true hn, Bool.true_and] at hT
        have HT2 := Lib.hid hT
        clear hT hall hn
        by_cases h60 : l.length ≤ 60
        · obtain rfl : T = true := HT2.out.trans (decide_eq_true h60)
          go_wp2_with fail
          refine (H.out _).mono ?_
          rintro e w5 ⟨rfl, rfl⟩
          go_wp2_with fail
          go_ret
          exact ⟨by simp; omega, Hb.out⟩
        · obtain rfl : T = false := HT2.out.trans (decide_eq_false h60)
          go_wp2_with fail
          refine (H.out _).mono ?_
          rintro e w5 ⟨rfl, rfl⟩
          go_wp2_with fail
          go_ret
          exact ⟨by simp; omega, Hb.out⟩
      · have H := Lib.hid (fun W => lin_any n 1 4 false W (decide_eq_false hn))
        rw [decide_eq_false hn, Bool.false_and] at hT
        subst hT
        clear hall hn
        go_wp2_with fail
        refine (H.out _).mono ?_
        rintro e w5 ⟨rfl, rfl⟩
        go_wp2_with fail
        go_ret
        exact ⟨rfl, Hb.out⟩
end Go.Proofs.Ytmpafidkpangeaa
namespace Go.Proofs.Ytmpafidkpangeaa
open Go.RowKit
attribute [local irreducible] World.cell?
theorem eq_takeM {a b : List (List Dw)} {j : Nat} {x y : List Dw} (hx : a[j]? = some x) (hy : b[j]? = some y) (h : a.take j = b.take j) (hxy : x = y) : a.take (j + 1) = b.take (j + 1) := by
  rw [List.take_add_one, List.take_add_one, h, hx, hy, hxy]
set_option maxRecDepth 100000 in
set_option maxHeartbeats 1600000 in
theorem sequalMt (B C D E : Nat) (v u : Value) (M N : List (List Dw)) (w : World) (hv : DSM w B C v M) (hu : DSM w D E u N) (hn : M.length ≤ 1048576) (_ : N.length ≤ 1048576) (hm : amps M ≤ 1048576) (hm' : amps N ≤ 1048576) :
    Calls Try.prog 20 #[v, u] w fun e w' => e = .returned (.bool (decide (M = N))) ∧ Below w.heap.size w w' := by
  obtain ⟨a, cap, rfl, hcap, hr⟩ := hv
  obtain ⟨a', cap', rfl, hcap', hr'⟩ := hu
  have Hr := Lib.hid hr
  have Hr' := Lib.hid hr'
  clear hr hr'
  by_cases hl : M.length = N.length
  · obtain ⟨R, hR⟩ : ∃ R, R = decide (M = N) := ⟨_, rfl⟩
    rw [← hR]
    have HR := Lib.hid hR
    clear hR
    rw [← hl] at Hr' hcap' ⊢
    have Hl := Lib.hid hl
    clear hl
    have hd2 : ((M.length : Int) != M.length) = false := by simp
    go_enter Try.func20, Try.ntmps20
    go_wp2_with fail
    go_loopg [5] M.length (fun k i wr => ∃ j : Nat, k = M.length - j ∧ j ≤ M.length ∧ i = .int .i64 j ∧ Hid (M.take j = N.take j) ∧ Hid (Below w.heap.size w wr))
    case atStart => exact ⟨0, rfl, Nat.zero_le _, rfl, rfl, Below.refl _ _⟩
    case round =>
      obtain ⟨j, rfl, hj, rfl, Heq, Hb⟩ := hrel
      by_cases hlt : j < M.length
      · obtain ⟨g, rfl, _, _, hrow⟩ := Hr.out (by omega)
        obtain ⟨g', rfl, _, _, hrow'⟩ := Hr'.out (by omega)
        obtain ⟨x, hx⟩ : ∃ r, M[j]? = some r := ⟨M[j], List.getElem?_eq_getElem hlt⟩
        obtain ⟨y, hy⟩ : ∃ r, N[j]? = some r := ⟨N[j]'(by have := Hl.out; omega), List.getElem?_eq_getElem _⟩
        have r1 := hrow.block (Hb.out.block _ hrow.lt) fun k _ _ hk => Hb.out.block k hk
        have r2 := hrow'.block (Hb.out.block _ hrow'.lt) fun k _ _ hk => Hb.out.block k hk
        obtain ⟨p, pc, c0, hd1⟩ := r1.cell hx
        obtain ⟨q, qc, c1, hd2⟩ := r2.cell hy
        have hgl := r1.lt
        have hgl' := r2.lt
        have Hx := Lib.hid hx
        have Hy := Lib.hid hy
        have He := Lib.hid (fun W (h1 : Hid (DSl W B (.slice p x.length pc) x)) (h2 : Hid (DSl W D (.slice q y.length qc) y)) => sequalSt B D (.slice p x.length pc) (.slice q y.length qc) x y W h1.out h2.out (by have := amps_row hx; omega) (by have := amps_row hy; omega))
        have Hd1 := Lib.hid hd1.dsl
        have Hd2 := Lib.hid hd2.dsl
        have hS : SP2 w g g' j B D (.slice p x.length pc) (.slice q y.length qc) x y wr := ⟨c0, c1, hgl, hgl', Hd1, Hd2, Hb.out⟩
        clear hd1 hd2 r1 r2 hrow hrow' hx hy
        by_cases hxy : x = y
        · rw [decide_eq_true hxy] at He
          have Hxy := Lib.hid hxy
          clear hxy
          go_upto_region 6 with fail
          go_region_held3 (fun w' => w'.cell? ⟨g, j, none⟩ = some (.slice p x.length pc) ∧ w'.cell? ⟨g', j, none⟩ = some (.slice q y.length qc) ∧ g < w'.heap.size ∧ g' < w'.heap.size ∧ Hid (DSl w' B (.slice p x.length pc) x) ∧ Hid (DSl w' D (.slice q y.length qc) y) ∧ Below w.heap.size w w') (first | (show SP2 w g g' j B D (.slice p x.length pc) (.slice q y.length qc) x y _; (with_reducible exact hS.drew)) | (show SP2 w g g' j B D (.slice p x.length pc) (.slice q y.length qc) x y _; (with_reducible refine SP2.below ?_ hbR); first | assumption | exact ⟨by assumption, by assumption, by assumption, by assumption, by assumption, by assumption, by assumption⟩))
            (first | (go_at_call 55; (with_reducible refine (He.out _ hS.drew.one hS.drew.two).mono ?_); rintro e wR ⟨rfl, hbR⟩))
          have Hb2 := Lib.hid (below_up Hb.out.drew hbR Hb.out.size)
          go_wp2_with fail
          go_roundg (M.length - (j + 1))
          case measure => omega
          case rel => exact ⟨j + 1, rfl, by omega, by go_num, Lib.hid (eq_takeM Hx.out Hy.out Heq.out Hxy.out), Hb2⟩
        · rw [decide_eq_false hxy] at He
          have hF : M ≠ N := fun h => hxy (by have h1 := Hx.out; rw [h, Hy.out] at h1; injection h1 with h1; exact h1.symm)
          obtain rfl : R = false := HR.out.trans (decide_eq_false hF)
          clear hF hxy
          go_upto_region 6 with fail
          go_region_held3 (fun w' => w'.cell? ⟨g, j, none⟩ = some (.slice p x.length pc) ∧ w'.cell? ⟨g', j, none⟩ = some (.slice q y.length qc) ∧ g < w'.heap.size ∧ g' < w'.heap.size ∧ Hid (DSl w' B (.slice p x.length pc) x) ∧ Hid (DSl w' D (.slice q y.length qc) y) ∧ Below w.heap.size w w') (first | (show SP2 w g g' j B D (.slice p x.length pc) (.slice q y.length qc) x y _; (with_reducible exact hS.drew)) | (show SP2 w g g' j B D (.slice p x.length pc) (.slice q y.length qc) x y _; (with_reducible refine SP2.below ?_ hbR); first | assumption | exact ⟨by assumption, by assumption, by assumption, by assumption, by assumption, by assumption, by assumption⟩))
            (first | (go_at_call 55; (with_reducible refine (He.out _ hS.drew.one hS.drew.two).mono ?_); rintro e wR ⟨rfl, hbR⟩))
          have Hb2 := Lib.hid (below_up Hb.out.drew hbR Hb.out.size)
          go_wp2_with fail
          go_ret
          exact ⟨rfl, Hb2.out⟩
      · obtain rfl : j = M.length := by omega
        have heq := Heq.out
        rw [List.take_length, Hl.out, List.take_length] at heq
        obtain rfl : R = true := HR.out.trans (decide_eq_true heq)
        go_wp2_with fail
        go_ret
        exact ⟨rfl, Hb.out⟩
  · rw [decide_eq_false (fun h => hl (by rw [h]))]
    have hd2 : ((M.length : Int) != N.length) = true := by simp; omega
    go_enter Try.func20, Try.ntmps20
    go_wp2_with fail
    go_ret
    exact ⟨rfl, Below.refl _ _⟩
end Go.Proofs.Ytmpafidkpangeaa
namespace Go.Proofs.Ytmpafidkpangeaa
open Go.RowKit
theorem col_step {M : List (List Dw)} {j k : Nat} {r : List Dw} {x : Dw} (hr : M[j]? = some r) (hx : r[k]? = some x) : flat ((col M k).take j) ++ fl x = flat ((col M k).take (j + 1)) := by
  have e : (col M k)[j]? = some x := by
    rw [col, List.getElem?_map, hr]
    simp [List.getD, hx]
  rw [List.take_add_one, e, flat_app]
  simp [flat]
attribute [local irreducible] World.cell?
set_option maxRecDepth 100000 in
set_option maxHeartbeats 1600000 in
theorem scolumn (B C : Nat) (v : Value) (M : List (List Dw)) (k : Nat) (w : World) (hv : DSM w B C v M) (hk : ∀ r ∈ M, k < r.length) (hn : M.length ≤ 1048576) (hk2 : k ≤ 1048576) :
    Calls Try.prog 105 #[v, .int .i64 k] w fun e w' => ∃ u, e = .returned u ∧ DSl w' w.heap.size u (col M k) ∧ Below w.heap.size w w' := by
  obtain ⟨i0, hi, hz0, hz1, hz2⟩ := info_parts infoDw
  obtain ⟨a, cap, rfl, hcap, hr⟩ := hv
  have Hr := Lib.hid hr
  clear hr
  have Hk := Lib.hid hk
  clear hk
  go_enter Try.func105, Try.ntmps105
  go_wp2_with fail
  go_loopg [5, 6] M.length (fun n out i wr => ∃ j : Nat, n = M.length - j ∧ j ≤ M.length ∧ i = .int .i64 j ∧ Hid (wr.ownsRow w.heap.size 120 5 out j (flat ((col M k).take j))) ∧ Hid (Below w.heap.size w wr))
  case atStart => exact ⟨0, rfl, Nat.zero_le _, rfl, own_new rfl, (Below.refl _ _).alloc (Nat.le_refl _) _⟩
  case round =>
    obtain ⟨j, rfl, hj, rfl, Hown, Hb⟩ := hrel
    by_cases hlt : j < M.length
    · obtain ⟨g, rfl, _, _, hrow⟩ := Hr.out (by omega)
      obtain ⟨r, hr⟩ : ∃ r, M[j]? = some r := ⟨M[j], List.getElem?_eq_getElem hlt⟩
      have hkr := Hk.out r (List.mem_of_getElem? hr)
      obtain ⟨x, hx⟩ : ∃ x, r[k]? = some x := ⟨r[k], List.getElem?_eq_getElem hkr⟩
      have r1 := hrow.block (Hb.out.block _ hrow.lt) fun k _ _ hk => Hb.out.block k hk
      obtain ⟨p, pc, c0, hd1⟩ := r1.cell hr
      obtain ⟨p', pc', he, hpc, hd2⟩ := hd1
      obtain ⟨g2, hp, _, _, hrow2⟩ := hd2 (by omega)
      injection he with he1 he2 he3
      subst he1 he3 hp
      obtain ⟨d0, d1, d2, d3, d4⟩ := hrow2.cells hx
      have Hstep := Lib.hid (col_step hr hx)
      have hgl := r1.lt
      have hgl2 := hrow2.lt
      have hs := Hb.out.size
      clear hd2 r1 hrow hrow2 hr hx he2
      go_wp2_with (first
        | (at_builtin; refine wpList_append_own _ rfl _ _ 82 rfl w.heap.size 120 i0 (.agg #[.int .i64 0, .int .i64 0, .int .i64 0, .int .i64 0, .int .i64 0]) 5 40 Try.underlying82 hi hz0 hz1 hz2 rfl (by decide) _ _ _ rfl (Hown.out.alloc _) ⟨wr.heap.size, 0, none⟩ 1 1 (fl x) rfl rfl (fl_new _ _ _) (fl_plain _) ?d3 ?d4 ?d5 ?_))
      case d3 => unfold maxLen; omega
      case d4 => omega
      case d5 => first | omega | (simp; omega) | (simp; omega)
      intro v' w4 hown' hgrow _
      have HB4 := Lib.hid ((Hb.out.alloc hs (.cells #[.int .i64 x.n.a, .int .i64 x.n.b, .int .i64 x.n.c, .int .i64 x.n.d, .int .i64 x.e] 120)).grown hgrow (by simp; omega) (fun q hq => by have := Hown.out.lt q hq; omega))
      rw [Hstep.out] at hown'
      have Hown4 := Lib.hid hown'
      clear hown' hgrow
      go_wp2_with fail
      go_roundg (M.length - (j + 1))
      case measure => omega
      case rel => exact ⟨j + 1, rfl, by omega, by go_num, Hown4.out, HB4⟩
    · obtain rfl : j = M.length := by omega
      have hown := Hown.out
      rw [show M.length = (col M k).length from (col_len M k).symm, List.take_length] at hown
      have Hd := Lib.hid (DSl.of_own hown)
      clear hown
      go_wp2_with fail
      go_ret
      exact ⟨_, rfl, Hd.out, Hb.out⟩
theorem colsM_at {L : List (List Dw)} {j : Nat} (hj : j < L.length) : (colsM L).take (j + 1) = (colsM L).take j ++ [col L j] := by
  rw [List.take_add_one, colsM, List.getElem?_map, List.getElem?_range hj]
  rfl
set_option maxRecDepth 100000 in
set_option maxHeartbeats 1600000 in
theorem scolumns (B C : Nat) (v : Value) (L : List (List Dw)) (w : World) (hv : DSM w B C v L) (hk : ∀ r ∈ L, L.length ≤ r.length) (hn : L.length ≤ 1048576) :
    Calls Try.prog 65 #[v] w fun e w' => ∃ u, e = .returned u ∧ DSM w' w.heap.size w'.heap.size u (colsM L) ∧ Below w.heap.size w w' := by
  obtain ⟨i0, hi, hz0, hz1, hz2⟩ := info_parts infoDs
  have Hv := Lib.hid hv
  have Hk := Lib.hid hk
  clear hk
  have Hc := Lib.hid (fun (j : Nat) (hj : j < L.length) W (h : DSM W B C v L) => scolumn B C v L j W h (fun r hr => Nat.lt_of_lt_of_le hj (Hk.out r hr)) hn (by omega))
  obtain ⟨a, cap, rfl, hcap, -⟩ := hv
  clear Hk
  go_enter Try.func65, Try.ntmps65
  go_wp2_with fail
  go_loopg [3, 4] L.length (fun n out i wr => ∃ (j : Nat) (vs : List Value), n = L.length - j ∧ j ≤ L.length ∧ i = .int .i64 j ∧ Hid (wr.ownsRow w.heap.size 82 1 out j vs) ∧ Hid (RwS wr w.heap.size wr.heap.size vs ((colsM L).take j)) ∧ Hid (Below w.heap.size w wr))
  case atStart => exact ⟨0, [], rfl, Nat.zero_le _, rfl, ownM_new rfl, RwS.nil, (Below.refl _ _).alloc (Nat.le_refl _) _⟩
  case round =>
    obtain ⟨j, vs, rfl, hj, rfl, Hown, Hrows, Hb⟩ := hrel
    by_cases hlt : j < L.length
    · have Hv1 := Lib.hid (Hv.out.block fun k _ _ hk => Hb.out.block k hk)
      have Hc1 := Lib.hid (Hc.out j hlt wr Hv1.out)
      clear Hv1
      have hs := Hb.out.size
      go_wp2_with fail
      refine (Hc1.out).mono ?_
      rintro e w2 ⟨u, rfl, hd, hb2⟩
      have Hown2 := Lib.hid (row_below Hown.out hb2)
      have Hrows2 := Lib.hid (Hrows.out.snoc hd.upto hs hb2.size fun k _ _ hk => hb2.block k hk)
      have Hb2 := Lib.hid (Hb.out.trans (hb2.mono hs))
      have hs2 := Hb2.out.size
      obtain ⟨p, pc, rfl, -, -⟩ := hd
      clear hb2 Hown Hrows Hb Hc1
      go_wp2_with (first
        | (at_builtin; refine wpList_append_own _ rfl _ _ 33 rfl w.heap.size 82 i0 (.slice none 0 0) 1 24 Try.underlying33 hi hz0 hz1 hz2 rfl (by decide) _ _ _ rfl (Hown2.out.alloc _) ⟨w2.heap.size, 0, none⟩ 1 1 [.slice p (col L j).length pc] rfl rfl (slice_new _ _ _) (by intro u hu; simp at hu; subst hu; rfl) ?d3 ?d4 ?d5 ?_))
      case d3 => unfold maxLen; omega
      case d4 => omega
      case d5 => first | omega | (simp; omega)
      intro v' w4 hown' hgrow _
      have HB4 := Lib.hid ((Hb2.out.alloc hs2 (.cells #[.slice p (col L j).length pc] 82)).grown hgrow (by simp; omega) (fun q hq => by have := Hown2.out.lt q hq; omega))
      have Hrows4 := Lib.hid (((Hrows2.out.block fun k _ _ hk => Below.heap_alloc _ _ _ hk).grown (Hown2.out.alloc _) hgrow).upto)
      have Hown4 := Lib.hid hown'
      clear hown' hgrow
      go_wp2_with fail
      go_roundg (L.length - (j + 1))
      case measure => omega
      case rel => exact ⟨j + 1, _, rfl, by omega, by go_num, Hown4.out, by rw [colsM_at hlt]; exact Hrows4, HB4⟩
    · obtain rfl : j = L.length := by omega
      have hown := Hown.out
      have hrows := Hrows.out
      rw [show L.length = (colsM L).length from (colsM_len L).symm] at hown hrows
      rw [List.take_length] at hrows
      have Hd := Lib.hid (DSM.of_own hown hrows (Nat.le_refl _))
      clear hown hrows
      go_wp2_with fail
      go_ret
      exact ⟨_, rfl, Hd.out, Hb.out⟩
end Go.Proofs.Ytmpafidkpangeaa
namespace Go.Proofs.Ytmpafidkpangeaa
theorem gqs_invP (g : Gt) : gqs (invG g) = gqs g := by unfold gqs invG; simp only [ar_invK]
theorem gtB_invP (g : Gt) (n : Int) : gtB (invG g) n = gtB g n := by
  have h : gtOk (invG g) = gtOk g := by funext hi j; unfold gtOk; rw [gqs_invP]; simp only [invG, ar_invK]; by_cases hj : ar g.k ≤ j <;> simp only [hj, if_true, if_false] <;> rfl
  unfold gtB; rw [h]; simp only [invG, ar_invK]
theorem ciB_parts {n : Int} {L : List Gt} (h : ciB n L = true) : (∀ g ∈ L, gtB g n = true) ∧ (1 ≤ n ∧ n ≤ 4) ∧ L.length ≤ 60 := by
  unfold ciB at h
  simp only [Bool.and_eq_true, decide_eq_true_eq, List.all_eq_true] at h
  exact ⟨h.1, h.2.1, h.2.2⟩
theorem ciB_of {n : Int} {L : List Gt} (h1 : ∀ g ∈ L, gtB g n = true) (h2 : 1 ≤ n ∧ n ≤ 4) (h3 : L.length ≤ 60) : ciB n L = true := by
  unfold ciB
  simp only [Bool.and_eq_true, decide_eq_true_eq, List.all_eq_true]
  exact ⟨h1, h2, h3⟩
end Go.Proofs.Ytmpafidkpangeaa
