/- BaseB10: several of our texts in one: GtE GtR. -/
import Derived.Test.YtlmiebeffdcfhaaGreatUBaseB16
import Derived.Test.YtlmiebeffdcfhaaGreatUBaseB06
namespace Go.Proofs.YtlmiebeffdcfhaaGreat
open Go.RowKit
def most9 : List Int := [0, 8, 11, 12, 12]
theorem most9_bd (j : Nat) (h1 : 1 ≤ j) (h4 : j ≤ 4) : 1 ≤ most9.getD j 0 ∧ most9.getD j 0 ≤ 12 := by
  rcases (show j = 1 ∨ j = 2 ∨ j = 3 ∨ j = 4 by omega) with rfl | rfl | rfl | rfl <;> decide
def kinds9 : List Int := [4, 7, 5, 8, 9, 9, 9, 9]
theorem list_new9 (w : World) : ListAt (w.alloc (.cells #[.int .i64 4, .int .i64 7, .int .i64 5, .int .i64 8, .int .i64 9, .int .i64 9, .int .i64 9, .int .i64 9] 3)) w.heap.size 8 (fun j => .int .i64 (kinds9.getD j 0)) := by
  refine zlist_at (heap_alloc_new w _) 8 _ fun j hj => ?_
  rcases (show j = 0 ∨ j = 1 ∨ j = 2 ∨ j = 3 ∨ j = 4 ∨ j = 5 ∨ j = 6 ∨ j = 7 by omega) with rfl | rfl | rfl | rfl | rfl | rfl | rfl | rfl <;> rfl
attribute [local irreducible] World.cell?
set_option maxRecDepth 100000 in
set_option maxHeartbeats 3200000 in
theorem gate_any (B n : Nat) (w : World) (hcur : CurAt w B) (hB : B < w.heap.size) (h1 : 1 ≤ n) (h4 : n ≤ 4) :
    Calls Tryz.prog 62 #[.pointer (some ⟨B, 0, none⟩), .int .i64 n] w fun e w' => (∃ g, e = .returned (.agg #[.int .i64 g.k, .int .i64 g.a, .int .i64 g.b, .int .i64 g.c]) ∧ GtBd g) ∧ CurAt w' B ∧ Own B w w' := by
  have Ha := Lib.hid (fun k w => sar k w)
  have HR := Lib.hid (alloc_blk (.cells #[.int .i64 0, .int .i64 8, .int .i64 11, .int .i64 12, .int .i64 12] 3) (heap_alloc_new w (.cells #[.int .i64 0, .int .i64 0, .int .i64 0, .int .i64 0] 25)))
  have hne : w.heap.size ≠ B := by omega
  have Hb0 := Lib.hid (show Below w.heap.size w ((w.alloc (.cells #[.int .i64 0, .int .i64 0, .int .i64 0, .int .i64 0] 25)).alloc (.cells #[.int .i64 0, .int .i64 8, .int .i64 11, .int .i64 12, .int .i64 12] 3)) by go_grown)
  have hrow : ((w.alloc (.cells #[.int .i64 0, .int .i64 0, .int .i64 0, .int .i64 0] 25)).alloc (.cells #[.int .i64 0, .int .i64 8, .int .i64 11, .int .i64 12, .int .i64 12] 3)).heap[w.heap.size + 1]? = some (.cells #[.int .i64 0, .int .i64 8, .int .i64 11, .int .i64 12, .int .i64 12] 3 (0, 0)) := by
    simpa using heap_alloc_new (w.alloc (.cells #[.int .i64 0, .int .i64 0, .int .i64 0, .int .i64 0] 25)) (.cells #[.int .i64 0, .int .i64 8, .int .i64 11, .int .i64 12, .int .i64 12] 3)
  obtain ⟨m, hm⟩ : ∃ m, m = most9.getD n 0 := ⟨_, rfl⟩
  have hmb := most9_bd n h1 h4
  rw [← hm] at hmb
  have cm := IRow.cell (l := most9) (j := n) (x := m) ⟨_, hrow, rfl⟩ (by rw [hm, List.getD_eq_getElem?_getD, List.getElem?_eq_getElem (show n < most9.length by simp [most9]; omega)]; rfl)
  have Hc0 := Lib.hid (hcur.below Hb0.out hB)
  have Ho0 := Lib.hid (show Own B w _ from own_of_below Hb0.out)
  clear hm hrow hcur
  go_enter Tryz.func62, Tryz.ntmps62
  go_wp2_with fail
  refine (below_any B m _ Hc0.out (by omega) (by omega)).mono ?_
  rintro e w1 ⟨⟨x, x0, x1, rfl⟩, hc1, ho1⟩
  have hs1 := ho1.size
  simp at hs1
  have Hc1 := Lib.hid hc1
  have HR1 := Lib.hid (own_blk ho1 hne HR.out)
  have Ho1 := Lib.hid (own_trans Ho0.out ho1)
  clear hc1 ho1 cm Hc0 HR
  go_wp2_with fail
  refine (once_any B 2 _ Hc1.out (by omega) (by omega)).mono ?_
  rintro e w2 ⟨⟨b, rfl⟩, hc2, ho2⟩
  have hs2 := ho2.size
  have Hc2 := Lib.hid hc2
  have HR2 := Lib.hid (own_blk ho2 hne HR1.out)
  have Ho2 := Lib.hid (own_trans Ho1.out ho2)
  clear hc2 ho2 Hc1 HR1
  cases b with
  | false =>
    have HcT := Hc2
    have HRT := HR2
    have HoT := Ho2
    clear Hc2 HR2 Ho2
    have kk0 : 1 ≤ 1 + x := by omega
    have kk1 : 1 + x ≤ 12 := by omega
    go_wp2_with fail
    generalize 1 + x = kk at *

    refine (Ha.out _ _).mono ?_
    rintro e w8 ⟨rfl, rfl⟩
    by_cases har : ar kk ≤ n
    · have hd : decide ((n : Int) < ar kk) = false := decide_eq_false (by omega)
      have hdn : ¬ n < ar kk := by omega
      go_wp2_with fail
      refine (on_any B n kk _ HcT.out (by omega) kk0 kk1 h1 h4 har).mono ?_
      rintro e w9 ⟨⟨g, rfl, hgb⟩, hc9, ho9⟩
      have hR9 := own_blk ho9 hne HRT.out
      have hs9 := ho9.size
      have HoF := Lib.hid (own_trans HoT.out ho9)
      have Hc9 := Lib.hid hc9
      obtain ⟨r0, r1, r2, r3⟩ := blk_cells hR9
      have fR := fun o => free_at hR9 o
      have hRl := lt_of_block hR9
      have HR9 := Lib.hid hR9
      clear hR9 hc9 ho9
      go_wp2_with fail
      obtain ⟨k0', k1', k2', k3'⟩ := blk_cells (set4_at (u0 := .int .i64 g.k) (u1 := .int .i64 g.a) (u2 := .int .i64 g.b) (u3 := .int .i64 g.c) HR9.out)
      refine bodyPost_ret (v := (.agg #[.int .i64 g.k, .int .i64 g.a, .int .i64 g.b, .int .i64 g.c])) (by simp only [results, Tryz.results62]; simp [go_sem, k0', k1', k2', k3']) rfl ⟨⟨g, rfl, hgb⟩, ?_, ?_⟩
      · refine Hc9.out.below (C := w.heap.size) ?_ hB
        have := Below.refl w9.heap.size w9
        go_grown
      · refine own_under HoF.out (C := w.heap.size) ?_ (Nat.le_refl _)
        have := Below.refl w9.heap.size w9
        go_grown
    · have hd : decide ((n : Int) < ar kk) = true := decide_eq_true (by omega)
      have hdn : n < ar kk := by omega
      go_wp2_with fail
      refine (on_any B n 4 _ HcT.out (by omega) (by decide) (by decide) h1 h4 (by have : ar 4 = 1 := rfl; omega)).mono ?_
      rintro e w9 ⟨⟨g, rfl, hgb⟩, hc9, ho9⟩
      have hR9 := own_blk ho9 hne HRT.out
      have hs9 := ho9.size
      have HoF := Lib.hid (own_trans HoT.out ho9)
      have Hc9 := Lib.hid hc9
      obtain ⟨r0, r1, r2, r3⟩ := blk_cells hR9
      have fR := fun o => free_at hR9 o
      have hRl := lt_of_block hR9
      have HR9 := Lib.hid hR9
      clear hR9 hc9 ho9
      go_wp2_with fail
      obtain ⟨k0', k1', k2', k3'⟩ := blk_cells (set4_at (u0 := .int .i64 g.k) (u1 := .int .i64 g.a) (u2 := .int .i64 g.b) (u3 := .int .i64 g.c) HR9.out)
      refine bodyPost_ret (v := (.agg #[.int .i64 g.k, .int .i64 g.a, .int .i64 g.b, .int .i64 g.c])) (by simp only [results, Tryz.results62]; simp [go_sem, k0', k1', k2', k3']) rfl ⟨⟨g, rfl, hgb⟩, ?_, ?_⟩
      · refine Hc9.out.below (C := w.heap.size) ?_ hB
        have := Below.refl w9.heap.size w9
        go_grown
      · refine own_under HoF.out (C := w.heap.size) ?_ (Nat.le_refl _)
        have := Below.refl w9.heap.size w9
        go_grown

  | true =>
    have HL := Lib.hid (list_new9 w2)
    have HA2 := Lib.hid (Hc2.out.own (own_alloc (own_refl w2.heap.size w2) (.cells #[.int .i64 4, .int .i64 7, .int .i64 5, .int .i64 8, .int .i64 9, .int .i64 9, .int .i64 9, .int .i64 9] 3)) (by omega))
    go_wp2_with fail
    refine (pickB B w2.heap.size 8 8 kinds9 _ HA2.out HL.out (by omega) (by omega) (by omega) rfl 1 12 (by decide)).mono ?_
    rintro e w3 ⟨⟨kk, kk0, kk1, rfl⟩, hc3, ho3⟩
    have hs3 := ho3.size
    simp at hs3
    have HcT := Lib.hid hc3
    have HRT := Lib.hid (own_blk ho3 hne (alloc_blk _ HR2.out))
    have HoT := Lib.hid (own_trans (own_alloc Ho2.out _) ho3)
    clear hc3 ho3 Hc2 HR2 Ho2
    go_wp2_with fail

    refine (Ha.out _ _).mono ?_
    rintro e w8 ⟨rfl, rfl⟩
    by_cases har : ar kk ≤ n
    · have hd : decide ((n : Int) < ar kk) = false := decide_eq_false (by omega)
      have hdn : ¬ n < ar kk := by omega
      go_wp2_with fail
      refine (on_any B n kk _ HcT.out (by omega) kk0 kk1 h1 h4 har).mono ?_
      rintro e w9 ⟨⟨g, rfl, hgb⟩, hc9, ho9⟩
      have hR9 := own_blk ho9 hne HRT.out
      have hs9 := ho9.size
      have HoF := Lib.hid (own_trans HoT.out ho9)
      have Hc9 := Lib.hid hc9
      obtain ⟨r0, r1, r2, r3⟩ := blk_cells hR9
      have fR := fun o => free_at hR9 o
      have hRl := lt_of_block hR9
      have HR9 := Lib.hid hR9
      clear hR9 hc9 ho9
      go_wp2_with fail
      obtain ⟨k0', k1', k2', k3'⟩ := blk_cells (set4_at (u0 := .int .i64 g.k) (u1 := .int .i64 g.a) (u2 := .int .i64 g.b) (u3 := .int .i64 g.c) HR9.out)
      refine bodyPost_ret (v := (.agg #[.int .i64 g.k, .int .i64 g.a, .int .i64 g.b, .int .i64 g.c])) (by simp only [results, Tryz.results62]; simp [go_sem, k0', k1', k2', k3']) rfl ⟨⟨g, rfl, hgb⟩, ?_, ?_⟩
      · refine Hc9.out.below (C := w.heap.size) ?_ hB
        have := Below.refl w9.heap.size w9
        go_grown
      · refine own_under HoF.out (C := w.heap.size) ?_ (Nat.le_refl _)
        have := Below.refl w9.heap.size w9
        go_grown
    · have hd : decide ((n : Int) < ar kk) = true := decide_eq_true (by omega)
      have hdn : n < ar kk := by omega
      go_wp2_with fail
      refine (on_any B n 4 _ HcT.out (by omega) (by decide) (by decide) h1 h4 (by have : ar 4 = 1 := rfl; omega)).mono ?_
      rintro e w9 ⟨⟨g, rfl, hgb⟩, hc9, ho9⟩
      have hR9 := own_blk ho9 hne HRT.out
      have hs9 := ho9.size
      have HoF := Lib.hid (own_trans HoT.out ho9)
      have Hc9 := Lib.hid hc9
      obtain ⟨r0, r1, r2, r3⟩ := blk_cells hR9
      have fR := fun o => free_at hR9 o
      have hRl := lt_of_block hR9
      have HR9 := Lib.hid hR9
      clear hR9 hc9 ho9
      go_wp2_with fail
      obtain ⟨k0', k1', k2', k3'⟩ := blk_cells (set4_at (u0 := .int .i64 g.k) (u1 := .int .i64 g.a) (u2 := .int .i64 g.b) (u3 := .int .i64 g.c) HR9.out)
      refine bodyPost_ret (v := (.agg #[.int .i64 g.k, .int .i64 g.a, .int .i64 g.b, .int .i64 g.c])) (by simp only [results, Tryz.results62]; simp [go_sem, k0', k1', k2', k3']) rfl ⟨⟨g, rfl, hgb⟩, ?_, ?_⟩
      · refine Hc9.out.below (C := w.heap.size) ?_ hB
        have := Below.refl w9.heap.size w9
        go_grown
      · refine own_under HoF.out (C := w.heap.size) ?_ (Nat.le_refl _)
        have := Below.refl w9.heap.size w9
        go_grown
end Go.Proofs.YtlmiebeffdcfhaaGreat
namespace Go.Proofs.YtlmiebeffdcfhaaGreat
open Go.RowKit
theorem infoGt : (Tryz.prog.info? 25).map (fun i => (i.zero, i.size, i.bytes)) = some (some (.agg #[.int .i64 0, .int .i64 0, .int .i64 0, .int .i64 0]), 4, 32) := by kernel_rfl
theorem blk_cells2 {g : Nat} {W : World} {t : TypeId} {z0 z1 : Value} (h : W.heap[g]? = some (.cells #[z0, z1] t (0, 0))) : W.cell? ⟨g, 0, none⟩ = some z0 ∧ W.cell? ⟨g, 1, none⟩ = some z1 := ⟨cell_at h 0 _ rfl, cell_at h 1 _ rfl⟩
theorem grown_blk {w w' : World} {row : Option Nat} {b : Nat} {o : Obj} (hg : w.grownBy w' row) (h : w.heap[b]? = some o) (hne : some b ≠ row) : w'.heap[b]? = some o := (hg.block b (lt_of_block h) hne).trans h
theorem row_set1 {w : World} {base : Nat} {e : TypeId} {size : Nat} {v : Value} {n g off : Nat} {xs : List Value} {u : Value} (h : w.ownsRow base e size v n xs) (hn : ∀ k, v.ownBlock = some k → k ≠ g) : (w.setCell ⟨g, off, none⟩ u).ownsRow base e size v n xs := by
  obtain ⟨h1, h2⟩ := h
  refine ⟨h1, ?_⟩
  rcases h2 with h2 | ⟨g', cap, cur, a, b, c, d⟩
  · exact .inl h2
  · exact .inr ⟨g', cap, cur, a, b, set1_blk (hn g' (by rw [a]; rfl)) c, d⟩
theorem sl_set1 {α : Type} {E : Enc α} {w : World} {B g off : Nat} {v : Value} {l : List α} {u : Value} (h : E.Sl w B v l) (hg : g < B) : E.Sl (w.setCell ⟨g, off, none⟩ u) B v l :=
  h.block fun k hk _ => Below.heap_setCell _ _ _ _ (by show k ≠ g; omega)
attribute [local irreducible] World.cell?
set_option maxRecDepth 100000 in
set_option maxHeartbeats 6400000 in
theorem rightO_any (B n m : Nat) (w : World) (hcur : CurAt w B) (hB : B < w.heap.size) (h1 : 1 ≤ n) (h4 : n ≤ 4) (hm : m ≤ 60) :
    Calls Tryz.prog 46 #[.pointer (some ⟨B, 0, none⟩), .int .i64 n, .int .i64 m] w fun e w' => (∃ v l, e = .returned (.agg #[.int .i64 n, v]) ∧ List.length l ≤ m ∧ (∀ g ∈ l, GtBd g) ∧ w'.ownsRow (w.heap.size + 2) 25 4 v l.length (gtE.flat l)) ∧ CurAt w' B ∧ Own B w w' := by
  obtain ⟨i0, hi, hz0, hz1, hz2⟩ := info_parts infoGt
  have HR := Lib.hid (alloc_blk (.cells #[.int .i64 (n : Int), .slice none 0 0] 38) (heap_alloc_new w (.cells #[.int .i64 0, .slice none 0 0] 38)))
  have HG := Lib.hid (show ((w.alloc (.cells #[.int .i64 0, .slice none 0 0] 38)).alloc (.cells #[.int .i64 (n : Int), .slice none 0 0] 38)).heap[w.heap.size + 1]? = some (.cells #[.int .i64 (n : Int), .slice none 0 0] 38 (0, 0)) by
    simpa using heap_alloc_new (w.alloc (.cells #[.int .i64 0, .slice none 0 0] 38)) (.cells #[.int .i64 (n : Int), .slice none 0 0] 38))
  have Hb0 := Lib.hid (show Below w.heap.size w ((w.alloc (.cells #[.int .i64 0, .slice none 0 0] 38)).alloc (.cells #[.int .i64 (n : Int), .slice none 0 0] 38)) by go_grown)
  have Hc0 := Lib.hid (hcur.below Hb0.out hB)
  have Ho0 := Lib.hid (show Own B w _ from own_of_below Hb0.out)
  have hRB : w.heap.size ≠ B := by omega
  have hGB : w.heap.size + 1 ≠ B := by omega
  clear hcur
  go_enter Tryz.func46, Tryz.ntmps46
  go_wp2_with fail
  refine (below_any B ((m : Int) + 1) _ Hc0.out (by omega) (by omega)).mono ?_
  rintro e w1 ⟨⟨x, x0, x1, rfl⟩, hc1, ho1⟩
  obtain ⟨x, rfl⟩ : ∃ q : Nat, x = q := ⟨x.toNat, by omega⟩
  have hs1 := ho1.size
  simp at hs1
  have Hc1 := Lib.hid hc1
  have HR1 := Lib.hid (own_blk ho1 hRB HR.out)
  have HG1 := Lib.hid (own_blk ho1 hGB HG.out)
  have Ho1 := Lib.hid (own_trans Ho0.out ho1)
  clear hc1 ho1 Hc0 Ho0 HR HG
  go_wp2_with fail
  go_loopg [9] x (fun m' i wr => ∃ (j : Nat) (l : List Gt) (ov : Value), m' = x - j ∧ j ≤ x ∧ i = .int .i64 j ∧ l.length = j ∧ Hid (∀ g ∈ l, GtBd g) ∧ Hid (wr.ownsRow (w.heap.size + 2) 25 4 ov j (gtE.flat l)) ∧ Hid (wr.heap[w.heap.size + 1]? = some (.cells #[.int .i64 (n : Int), ov] 38 (0, 0))) ∧ Hid (wr.heap[w.heap.size]? = some (.cells #[.int .i64 0, .slice none 0 0] 38 (0, 0))) ∧ Hid (CurAt wr B) ∧ Hid (Own B w wr) ∧ w.heap.size + 2 ≤ wr.heap.size)
  case atStart => exact ⟨0, [], .slice none 0 0, rfl, Nat.zero_le _, rfl, rfl, Lib.hid (fun g h => absurd h List.not_mem_nil), Lib.hid (World.ownsRow_nil _ _ _ _), HG1, HR1, Hc1, Ho1, by omega⟩
  case round =>
    obtain ⟨j, l, ov, rfl, hj, rfl, hl, Hbd, Hown, HGr, HRr, Hc, Ho, hsz⟩ := hrel
    by_cases hlt : j < x
    · obtain ⟨g0, g1⟩ := blk_cells2 HGr.out
      have fG := fun o => free_at HGr.out o
      have hGl := lt_of_block HGr.out
      go_upto_region 6 with fail
      have HGd := Lib.hid (show wr.drew.heap[w.heap.size + 1]? = some (.cells #[.int .i64 (n : Int), ov] 38 (0, 0)) from HGr.out)
      have HRd := Lib.hid (show wr.drew.heap[w.heap.size]? = some (.cells #[.int .i64 0, .slice none 0 0] 38 (0, 0)) from HRr.out)
      have Hod := Lib.hid Hown.out.drew
      have Hcd := Lib.hid (gate_any B n wr.drew Hc.out.drew (by show B < wr.heap.size; omega) h1 h4)
      go_region_law? (first
        | ((go_simp; go_at_call 62; (with_reducible refine (Hcd.out).mono ?_); rintro e w2 ⟨⟨g, rfl, hgb⟩, hc2, ho2⟩; have hG2 := own_blk ho2 hGB HGd.out; obtain ⟨p0, p1⟩ := blk_cells2 hG2; have fG2 := fun o => free_at hG2 o; have hGl2 := lt_of_block hG2; have Hown2 := Lib.hid (row_own Hod.out ho2 (by omega))))
        | ((refine step_append_lies _ (by rfl) _ _ _ (by rfl) (w.heap.size + 2) 25 i0 (.agg #[.int .i64 0, .int .i64 0, .int .i64 0, .int .i64 0]) 4 32 Tryz.underlying28 hi hz0 hz1 hz2 rfl (by decide) ov j (gtE.flat l) (by go_simp) (Hown2.out.alloc (.cells #[.int .i64 g.k, .int .i64 g.a, .int .i64 g.b, .int .i64 g.c] 25)) ⟨w2.heap.size, 0, none⟩ 1 1 (gtE.fl g) (by go_simp) rfl (Enc.new_row (E := gtE) w2 g _ rfl) (gtE.one g) (by decide) (by unfold maxLen; omega) (by omega) (by simp; omega) (w2.heap.size + 1) (by simp) ?_; intro gg cap w3 hown3 hgrow hat hlt3; have hG3 := grown_blk hgrow (alloc_blk (.cells #[.int .i64 g.k, .int .i64 g.a, .int .i64 g.b, .int .i64 g.c] 25) hG2) (fun e => by have := (Hown2.out.lt _ e.symm).1; omega); obtain ⟨q0, q1⟩ := blk_cells2 hG3; have fG3 := fun o => free_at hG3 o; have hGl3 := lt_of_block hG3)))
      all_goals
        have hs2 := ho2.size
        have hR2 := own_blk ho2 hRB HRd.out
        have HR3 := Lib.hid (grown_blk hgrow (alloc_blk (.cells #[.int .i64 g.k, .int .i64 g.a, .int .i64 g.b, .int .i64 g.c] 25) hR2) (fun e => by have := (Hown2.out.lt _ e.symm).1; omega))
        have hb3 : Below (w.heap.size + 2) w2 w3 := ((Below.refl (w.heap.size + 2) w2).alloc (by have : wr.drew.heap.size = wr.heap.size := rfl; omega) (.cells #[.int .i64 g.k, .int .i64 g.a, .int .i64 g.b, .int .i64 g.c] 25)).grown hgrow (by simp; have : wr.drew.heap.size = wr.heap.size := rfl; omega) (fun q hq => (Hown2.out.lt q hq).1)
        have Hbd3 := Lib.hid (show ∀ g' ∈ l ++ [g], GtBd g' from fun g' h => by
          rcases List.mem_append.1 h with h | h
          · exact Hbd.out g' h
          · obtain rfl := List.mem_singleton.1 h; exact hgb)
        rw [gtE.flat_snoc] at hown3
        have Hown3 := Lib.hid hown3
        have HG3 := Lib.hid (heap_set hG3 1 (.slice (some ⟨gg, 0, none⟩) (j + 1) cap))
        have HG3 := Lib.hid hG3
        go_wp2_with fail
        go_roundg (x - (j + 1))
        case measure => omega
        case rel =>
          refine ⟨j + 1, l ++ [g], _, rfl, by omega, by go_num, by simp [hl], Hbd3, ?_, heap_set HG3.out 1 (.slice (some ⟨gg, 0, none⟩) (j + 1) cap), ?_, ?_, ?_, ?_⟩
          · exact row_set1 Hown3.out fun k hk => by have := (Hown3.out.lt k hk).1; omega
          · exact set1_blk (by omega) HR3.out
          · exact Lib.hid ((hc2.below hb3 (by omega)).own (C := w.heap.size + 1) (own_set (own_refl (w.heap.size + 1) w3) 1 _) (by omega))
          · exact Lib.hid (own_dn (own_under (own_trans Ho.out (show Own B wr w2 from ⟨ho2.os, ho2.tape, ho2.output, ho2.size, ho2.block⟩)) hb3 (by omega)) 1 _ (by omega))
          · have h5 := hb3.size
            have h6 : wr.drew.heap.size = wr.heap.size := rfl
            simp [World.setCell]
            omega
    · obtain rfl : j = x := by omega
      obtain ⟨p, c, rfl⟩ : ∃ p c, ov = .slice p j c := by
        rcases Hown.out.2 with ⟨rfl, h⟩ | ⟨g, cap, cur, rfl, _⟩
        · exact ⟨none, 0, by rw [h]⟩
        · exact ⟨_, _, rfl⟩
      obtain ⟨g0, g1⟩ := blk_cells2 HGr.out
      obtain ⟨r0, r1⟩ := blk_cells2 HRr.out
      have fR := fun o => free_at HRr.out o
      have hGl := lt_of_block HGr.out
      have hRl := lt_of_block HRr.out
      have Hs := Lib.hid (row_set1 (g := w.heap.size) (off := 1) (u := .slice p j c) (row_set1 (g := w.heap.size) (off := 0) (u := .int .i64 (n : Int)) Hown.out fun k hk => by have := (Hown.out.lt k hk).1; omega) fun k hk => by have := (Hown.out.lt k hk).1; omega)
      go_wp2_with fail
      obtain ⟨k0', k1'⟩ := blk_cells2 (heap_set (heap_set HRr.out 0 (.int .i64 (n : Int))) 1 (.slice p j c))
      refine bodyPost_ret (v := .agg #[.int .i64 (n : Int), .slice p j c]) (by simp only [results, Tryz.results46]; simp [go_sem, k0', k1']) rfl ⟨⟨.slice p j c, l, rfl, by omega, Hbd.out, by rw [hl]; exact Hs.out⟩, ?_, ?_⟩
      · exact Hc.out.own (C := w.heap.size) (own_set (own_set (own_refl w.heap.size wr) 0 _) 1 _) hB
      · exact own_dn (own_dn Ho.out 0 _ (Nat.le_refl _)) 1 _ (Nat.le_refl _)
theorem right_any (B n m : Nat) (w : World) (hcur : CurAt w B) (hB : B < w.heap.size) (h1 : 1 ≤ n) (h4 : n ≤ 4) (hm : m ≤ 60) :
    Calls Tryz.prog 46 #[.pointer (some ⟨B, 0, none⟩), .int .i64 n, .int .i64 m] w fun e w' => (∃ v l, e = .returned (.agg #[.int .i64 n, v]) ∧ List.length l ≤ m ∧ (∀ g ∈ l, GtBd g) ∧ gtE.Sl w' w.heap.size v l) ∧ CurAt w' B ∧ Own B w w' := by
  refine (rightO_any B n m w hcur hB h1 h4 hm).mono ?_
  rintro e w1 ⟨⟨v, l, rfl, hl, hb, ho⟩, hc, hw⟩
  exact ⟨⟨v, l, rfl, hl, hb, (Enc.Sl.of_own (E := gtE) (l := l) ho).mono (by omega)⟩, hc, hw⟩
end Go.Proofs.YtlmiebeffdcfhaaGreat
