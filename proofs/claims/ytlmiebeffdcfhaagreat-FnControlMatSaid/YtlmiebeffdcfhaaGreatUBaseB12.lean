/- BaseB12: several of our texts in one: DsD DsE DsA DsI DsN. -/
import Derived.Test.YtlmiebeffdcfhaaGreatUBaseC06
import Derived.Test.YtlmiebeffdcfhaaGreatUBaseB06
import Derived.Test.YtlmiebeffdcfhaaGreatUBaseB18
import Derived.Test.YtlmiebeffdcfhaaGreatUDwA
import Derived.Test.YtlmiebeffdcfhaaGreatUDwB
namespace Go.Proofs.YtlmiebeffdcfhaaGreat
open Go.RowKit
theorem row_own {w w' : World} {base B : Nat} {e : TypeId} {size : Nat} {v : Value} {n : Nat} {xs : List Value} (h : w.ownsRow base e size v n xs) (ho : Own B w w') (hB : B < base) : w'.ownsRow base e size v n xs := by
  obtain ⟨h1, h2⟩ := h
  refine ⟨h1, ?_⟩
  rcases h2 with h2 | ⟨g, cap, cur, a, b, c, d⟩
  · exact .inl h2
  · exact .inr ⟨g, cap, cur, a, b, by rw [ho.block g (lt_of_block c) (by intro e; injection e with e; omega)]; exact c, d⟩
theorem DSl.own {w w' : World} {B C : Nat} {v : Value} {l : List Dw} (h : DSl w C v l) (ho : Own B w w') (hB : B < C) : DSl w' C v l :=
  h.block fun g hg hl => ho.block g hl (by intro e; injection e with e; omega)
/-- The exponents of a row are machine integers. -/
def Eb (l : List Dw) : Prop := ∀ x ∈ l, -9223372036854775808 ≤ x.e ∧ x.e ≤ 9223372036854775807
theorem Eb.snoc {l : List Dw} {x : Dw} (h : Eb l) (hx : -9223372036854775808 ≤ x.e ∧ x.e ≤ 9223372036854775807) : Eb (l ++ [x]) := by
  intro y hy
  rcases List.mem_append.1 hy with hy | hy
  · exact h y hy
  · obtain rfl : y = x := by simpa using hy
    exact hx
theorem Eb.set {l : List Dw} {x : Dw} (h : Eb l) (j : Nat) (hx : -9223372036854775808 ≤ x.e ∧ x.e ≤ 9223372036854775807) : Eb (l.set j x) := by
  intro y hy
  rcases List.mem_or_eq_of_mem_set hy with hy | rfl
  · exact h y hy
  · exact hx
theorem Eb.take {l : List Dw} (h : Eb l) (j : Nat) : Eb (l.take j) := fun y hy => h y (List.mem_of_mem_take hy)
theorem own_grown {B : Nat} {a W w4 : World} {row : Option Nat} (h : Own B a W) (hg : W.grownBy w4 row) (hr : ∀ k, row = some k → a.heap.size ≤ k) : Own B a w4 :=
  ⟨hg.os.trans h.os, hg.tape.trans h.tape, hg.output.trans h.output, Nat.le_trans h.size hg.size, fun i hi hn => (hg.block i (Nat.lt_of_lt_of_le hi h.size) (by intro e; have := hr i e.symm; omega)).trans (h.block i hi hn)⟩
theorem row_set5 {w : World} {base : Nat} {e : TypeId} {size : Nat} {v : Value} {n g : Nat} {xs : List Value} {u0 u1 u2 u3 u4 : Value} (h : w.ownsRow base e size v n xs) (hn : ∀ k, v.ownBlock = some k → k ≠ g) :
    (((((w.setCell ⟨g, 0, none⟩ u0).setCell ⟨g, 1, none⟩ u1).setCell ⟨g, 2, none⟩ u2).setCell ⟨g, 3, none⟩ u3).setCell ⟨g, 4, none⟩ u4).ownsRow base e size v n xs := by
  obtain ⟨h1, h2⟩ := h
  refine ⟨h1, ?_⟩
  rcases h2 with h2 | ⟨k, cap, cur, rfl, b, c, d⟩
  · exact .inl h2
  · exact .inr ⟨k, cap, cur, rfl, b, set5_blk (hn k rfl) c, d⟩
theorem flat_snoc (l : List Dw) (y : Dw) : flat l ++ fl y = flat (l ++ [y]) := by rw [flat_app]; simp [flat]
theorem zero_eb : -9223372036854775808 ≤ Dw.zero.e ∧ Dw.zero.e ≤ 9223372036854775807 := by decide
theorem own_dn {B : Nat} {a w : World} (h : Own B a w) (o : Nat) (u : Value) {k : Nat} (hk : a.heap.size ≤ k) : Own B a (w.setCell ⟨k, o, none⟩ u) :=
  ⟨h.os, h.tape, h.output, by simpa [World.setCell] using h.size, fun i hi hn => (Below.heap_setCell _ _ _ _ (by show i ≠ k; omega)).trans (h.block i hi hn)⟩
attribute [local irreducible] World.cell?
set_option maxRecDepth 100000 in
set_option maxHeartbeats 3200000 in
theorem vec1 (B : Nat) (w : World) (hcur : CurAt w B) (hB : B < w.heap.size) :
    Calls Tryz.prog 117 #[.pointer (some ⟨B, 0, none⟩), .int .i64 1] w fun e w' => (∃ v l, e = .returned v ∧ List.length l = 2 ∧ Eb l ∧ DSl w' w.heap.size v l) ∧ CurAt w' B ∧ Own B w w' := by
  obtain ⟨i0, hi, hz0, hz1, hz2⟩ := info_parts infoDw
  have Hc0 := Lib.hid (hcur.own (own_alloc (own_refl w.heap.size w) (.cells #[] 70)) hB)
  have Ho0 := Lib.hid (own_alloc (own_refl B w) (.cells #[] 70))
  clear hcur
  go_enter Tryz.func117, Tryz.ntmps117
  go_wp2_with fail
  go_loopw [5, 6] (fun out i wr => ∃ (j : Nat) (l : List Dw), i = .int .i64 j ∧ j ≤ 2 ∧ List.length l = j ∧ Hid (Eb l) ∧ Hid (wr.ownsRow w.heap.size 70 5 out j (flat l)) ∧ Hid (CurAt wr B) ∧ Hid (Own B w wr)) (fun _ i _ => 2 - (intOf i).toNat)
  case atStart => exact ⟨0, [], rfl, by omega, rfl, Lib.hid (fun x h => absurd h List.not_mem_nil), own_new rfl, Hc0, Ho0⟩
  case round =>
    obtain ⟨j, l, rfl, hj, hl, He, Hown, Hc, Ho⟩ := hrel
    by_cases hlt : j < 2
    · have hjl : (j : Int) < 2 := by omega
      have hsz := Ho.out.size
      have hBw : B < wr.heap.size := by omega
      have Hz := Lib.hid (heap_alloc_new wr (.cells #[.int .i64 0, .int .i64 0, .int .i64 0, .int .i64 0, .int .i64 0] 70))
      have Hca := Lib.hid (Hc.out.own (own_alloc (own_refl wr.heap.size wr) (.cells #[.int .i64 0, .int .i64 0, .int .i64 0, .int .i64 0, .int .i64 0] 70)) hBw)
      have Hoa := Lib.hid (own_alloc Ho.out (.cells #[.int .i64 0, .int .i64 0, .int .i64 0, .int .i64 0, .int .i64 0] 70))
      have Howa := Lib.hid (Hown.out.alloc (.cells #[.int .i64 0, .int .i64 0, .int .i64 0, .int .i64 0, .int .i64 0] 70))
      have hlk : ∀ k, Value.ownBlock _ = some k → k ≠ wr.heap.size := fun k hk => by have := (Hown.out.lt k hk).2; omega
      have hne : wr.heap.size ≠ B := by omega
      clear Hown Hc Ho
      go_wp2_with fail
      refine (once_any B 2 _ Hca.out (by omega) (by omega)).mono ?_
      rintro e w1 ⟨⟨x, rfl⟩, hc1, ho1⟩
      have hr1 := own_blk ho1 hne Hz.out
      have Hown1 := Lib.hid (row_own Howa.out ho1 hB)
      have Hc1 := Lib.hid hc1
      have Ho1 := Lib.hid (own_trans Hoa.out ho1)
      have hs1 := ho1.size
      simp at hs1
      have Hr1 := Lib.hid hr1
      clear hc1 ho1 hr1 Hca Hoa Howa
      cases x with
      | false =>
        obtain ⟨c0, c1, c2, c3, c4⟩ := blk_cells5 Hr1.out
        have zz := lt_of_block Hr1.out
        go_wp2_with (first
          | (at_builtin; refine wpList_append_own _ rfl _ _ 59 rfl w.heap.size 70 i0 (.agg #[.int .i64 0, .int .i64 0, .int .i64 0, .int .i64 0, .int .i64 0]) 5 40 Tryz.underlying59 hi hz0 hz1 hz2 rfl (by decide) _ _ _ rfl (Hown1.out.alloc _) ⟨w1.heap.size, 0, none⟩ 1 1 (fl Dw.zero) rfl rfl (fl_new _ _ _) (fl_plain _) ?d3 ?d4 ?d5 ?_))
        case d3 => unfold maxLen; omega
        case d4 => omega
        case d5 => first | omega | (simp; omega) | (simp; omega)
        intro v' w4 hown' hgrow _
        have hge : ∀ k, Value.ownBlock _ = some k → w.heap.size ≤ k := fun k hk => (Hown1.out.lt k hk).1
        have Ho4 := Lib.hid (own_grown (own_alloc Ho1.out (.cells #[.int .i64 (Dw.zero).n.a, .int .i64 (Dw.zero).n.b, .int .i64 (Dw.zero).n.c, .int .i64 (Dw.zero).n.d, .int .i64 (Dw.zero).e] 70)) hgrow hge)
        have Hc4 := Lib.hid ((Hc1.out.below ((Below.refl w1.heap.size w1).alloc (Nat.le_refl _) (.cells #[.int .i64 (Dw.zero).n.a, .int .i64 (Dw.zero).n.b, .int .i64 (Dw.zero).n.c, .int .i64 (Dw.zero).n.d, .int .i64 (Dw.zero).e] 70)) (by omega)).below ((Below.refl w.heap.size _).grown hgrow (by simp; omega) hge) hB)
        rw [flat_snoc] at hown'
        have Hown4 := Lib.hid hown'
        clear hown' hgrow hge
        go_wp2_with fail
        go_roundw
        case rel => exact ⟨j + 1, l ++ [Dw.zero], by go_num, by omega, by simp [hl], Lib.hid (He.out.snoc zero_eb), Hown4.out, Hc4, Ho4⟩
        case measure => simp [intOf]; omega
      | true =>
        have hBw1 : B < w1.heap.size := by omega
        go_wp2_with fail
        refine (dw_any B _ Hc1.out hBw1).mono ?_
        rintro e w2 ⟨⟨y, rfl, ye⟩, hc2, ho2⟩
        have hr2 := own_blk ho2 hne Hr1.out
        have Hown2 := Lib.hid (row_own Hown1.out ho2 hB)
        obtain ⟨c0, c1, c2, c3, c4⟩ := blk_cells5 hr2
        have f1 := fun o => free_at hr2 o
        have zz := lt_of_block hr2
        go_upto_region 8 with fail
        have Hr3 := Lib.hid (set5_at (u0 := .int .i64 y.n.a) (u1 := .int .i64 y.n.b) (u2 := .int .i64 y.n.c) (u3 := .int .i64 y.n.d) (u4 := .int .i64 y.e) hr2)
        have Hown3 := Lib.hid (row_set5 (g := wr.heap.size) (u0 := .int .i64 y.n.a) (u1 := .int .i64 y.n.b) (u2 := .int .i64 y.n.c) (u3 := .int .i64 y.n.d) (u4 := .int .i64 y.e) Hown2.out hlk)
        have Ho3 := Lib.hid (own_dn (own_dn (own_dn (own_dn (own_dn (own_trans Ho1.out ho2) 0 (.int .i64 y.n.a) hsz) 1 (.int .i64 y.n.b) hsz) 2 (.int .i64 y.n.c) hsz) 3 (.int .i64 y.n.d) hsz) 4 (.int .i64 y.e) hsz)
        have Hc3 := Lib.hid (CurAt.far5 (g := wr.heap.size) (u0 := .int .i64 y.n.a) (u1 := .int .i64 y.n.b) (u2 := .int .i64 y.n.c) (u3 := .int .i64 y.n.d) (u4 := .int .i64 y.e) hc2 hBw)
        clear c0 c1 c2 c3 c4 f1 Hown2 hc2 hr2
        generalize ((((w2.setCell ⟨wr.heap.size, 0, none⟩ (.int .i64 y.n.a)).setCell ⟨wr.heap.size, 1, none⟩ (.int .i64 y.n.b)).setCell ⟨wr.heap.size, 2, none⟩ (.int .i64 y.n.c)).setCell ⟨wr.heap.size, 3, none⟩ (.int .i64 y.n.d)).setCell ⟨wr.heap.size, 4, none⟩ (.int .i64 y.e) = W3 at *
        obtain ⟨c0, c1, c2, c3, c4⟩ := blk_cells5 Hr3.out
        have zz3 := lt_of_block Hr3.out
        have hs3 := Ho3.out.size
        go_wp2_with (first
          | (at_builtin; refine wpList_append_own _ rfl _ _ 59 rfl w.heap.size 70 i0 (.agg #[.int .i64 0, .int .i64 0, .int .i64 0, .int .i64 0, .int .i64 0]) 5 40 Tryz.underlying59 hi hz0 hz1 hz2 rfl (by decide) _ _ _ rfl (Hown3.out.alloc _) ⟨W3.heap.size, 0, none⟩ 1 1 (fl y) rfl rfl (fl_new _ _ _) (fl_plain _) ?d3 ?d4 ?d5 ?_))
        case d3 => unfold maxLen; omega
        case d4 => omega
        case d5 => first | omega | (simp; omega) | (simp; omega)
        intro v' w4 hown' hgrow _
        have hge : ∀ k, Value.ownBlock _ = some k → w.heap.size ≤ k := fun k hk => (Hown3.out.lt k hk).1
        have Ho4 := Lib.hid (own_grown (own_alloc Ho3.out (.cells #[.int .i64 (y).n.a, .int .i64 (y).n.b, .int .i64 (y).n.c, .int .i64 (y).n.d, .int .i64 (y).e] 70)) hgrow hge)
        have Hc4 := Lib.hid ((Hc3.out.below ((Below.refl W3.heap.size W3).alloc (Nat.le_refl _) (.cells #[.int .i64 (y).n.a, .int .i64 (y).n.b, .int .i64 (y).n.c, .int .i64 (y).n.d, .int .i64 (y).e] 70)) (by omega)).below ((Below.refl w.heap.size _).grown hgrow (by simp; omega) hge) hB)
        rw [flat_snoc] at hown'
        have Hown4 := Lib.hid hown'
        clear hown' hgrow hge
        go_wp2_with fail
        go_roundw
        case rel => exact ⟨j + 1, l ++ [y], by go_num, by omega, by simp [hl], Lib.hid (He.out.snoc ye), Hown4.out, Hc4, Ho4⟩
        case measure => simp [intOf]; omega
    · obtain rfl : j = 2 := by omega
      go_wp2_with fail
      go_ret
      have hown := Hown.out
      rw [← hl] at hown
      exact ⟨⟨_, l, rfl, hl, He.out, DSl.of_own hown⟩, Hc.out, Ho.out⟩
set_option maxRecDepth 100000 in
set_option maxHeartbeats 3200000 in
theorem vec2 (B : Nat) (w : World) (hcur : CurAt w B) (hB : B < w.heap.size) :
    Calls Tryz.prog 117 #[.pointer (some ⟨B, 0, none⟩), .int .i64 2] w fun e w' => (∃ v l, e = .returned v ∧ List.length l = 4 ∧ Eb l ∧ DSl w' w.heap.size v l) ∧ CurAt w' B ∧ Own B w w' := by
  obtain ⟨i0, hi, hz0, hz1, hz2⟩ := info_parts infoDw
  have Hc0 := Lib.hid (hcur.own (own_alloc (own_refl w.heap.size w) (.cells #[] 70)) hB)
  have Ho0 := Lib.hid (own_alloc (own_refl B w) (.cells #[] 70))
  clear hcur
  go_enter Tryz.func117, Tryz.ntmps117
  go_wp2_with fail
  go_loopw [5, 6] (fun out i wr => ∃ (j : Nat) (l : List Dw), i = .int .i64 j ∧ j ≤ 4 ∧ List.length l = j ∧ Hid (Eb l) ∧ Hid (wr.ownsRow w.heap.size 70 5 out j (flat l)) ∧ Hid (CurAt wr B) ∧ Hid (Own B w wr)) (fun _ i _ => 4 - (intOf i).toNat)
  case atStart => exact ⟨0, [], rfl, by omega, rfl, Lib.hid (fun x h => absurd h List.not_mem_nil), own_new rfl, Hc0, Ho0⟩
  case round =>
    obtain ⟨j, l, rfl, hj, hl, He, Hown, Hc, Ho⟩ := hrel
    by_cases hlt : j < 4
    · have hjl : (j : Int) < 4 := by omega
      have hsz := Ho.out.size
      have hBw : B < wr.heap.size := by omega
      have Hz := Lib.hid (heap_alloc_new wr (.cells #[.int .i64 0, .int .i64 0, .int .i64 0, .int .i64 0, .int .i64 0] 70))
      have Hca := Lib.hid (Hc.out.own (own_alloc (own_refl wr.heap.size wr) (.cells #[.int .i64 0, .int .i64 0, .int .i64 0, .int .i64 0, .int .i64 0] 70)) hBw)
      have Hoa := Lib.hid (own_alloc Ho.out (.cells #[.int .i64 0, .int .i64 0, .int .i64 0, .int .i64 0, .int .i64 0] 70))
      have Howa := Lib.hid (Hown.out.alloc (.cells #[.int .i64 0, .int .i64 0, .int .i64 0, .int .i64 0, .int .i64 0] 70))
      have hlk : ∀ k, Value.ownBlock _ = some k → k ≠ wr.heap.size := fun k hk => by have := (Hown.out.lt k hk).2; omega
      have hne : wr.heap.size ≠ B := by omega
      clear Hown Hc Ho
      go_wp2_with fail
      refine (once_any B 2 _ Hca.out (by omega) (by omega)).mono ?_
      rintro e w1 ⟨⟨x, rfl⟩, hc1, ho1⟩
      have hr1 := own_blk ho1 hne Hz.out
      have Hown1 := Lib.hid (row_own Howa.out ho1 hB)
      have Hc1 := Lib.hid hc1
      have Ho1 := Lib.hid (own_trans Hoa.out ho1)
      have hs1 := ho1.size
      simp at hs1
      have Hr1 := Lib.hid hr1
      clear hc1 ho1 hr1 Hca Hoa Howa
      cases x with
      | false =>
        obtain ⟨c0, c1, c2, c3, c4⟩ := blk_cells5 Hr1.out
        have zz := lt_of_block Hr1.out
        go_wp2_with (first
          | (at_builtin; refine wpList_append_own _ rfl _ _ 59 rfl w.heap.size 70 i0 (.agg #[.int .i64 0, .int .i64 0, .int .i64 0, .int .i64 0, .int .i64 0]) 5 40 Tryz.underlying59 hi hz0 hz1 hz2 rfl (by decide) _ _ _ rfl (Hown1.out.alloc _) ⟨w1.heap.size, 0, none⟩ 1 1 (fl Dw.zero) rfl rfl (fl_new _ _ _) (fl_plain _) ?d3 ?d4 ?d5 ?_))
        case d3 => unfold maxLen; omega
        case d4 => omega
        case d5 => first | omega | (simp; omega) | (simp; omega)
        intro v' w4 hown' hgrow _
        have hge : ∀ k, Value.ownBlock _ = some k → w.heap.size ≤ k := fun k hk => (Hown1.out.lt k hk).1
        have Ho4 := Lib.hid (own_grown (own_alloc Ho1.out (.cells #[.int .i64 (Dw.zero).n.a, .int .i64 (Dw.zero).n.b, .int .i64 (Dw.zero).n.c, .int .i64 (Dw.zero).n.d, .int .i64 (Dw.zero).e] 70)) hgrow hge)
        have Hc4 := Lib.hid ((Hc1.out.below ((Below.refl w1.heap.size w1).alloc (Nat.le_refl _) (.cells #[.int .i64 (Dw.zero).n.a, .int .i64 (Dw.zero).n.b, .int .i64 (Dw.zero).n.c, .int .i64 (Dw.zero).n.d, .int .i64 (Dw.zero).e] 70)) (by omega)).below ((Below.refl w.heap.size _).grown hgrow (by simp; omega) hge) hB)
        rw [flat_snoc] at hown'
        have Hown4 := Lib.hid hown'
        clear hown' hgrow hge
        go_wp2_with fail
        go_roundw
        case rel => exact ⟨j + 1, l ++ [Dw.zero], by go_num, by omega, by simp [hl], Lib.hid (He.out.snoc zero_eb), Hown4.out, Hc4, Ho4⟩
        case measure => simp [intOf]; omega
      | true =>
        have hBw1 : B < w1.heap.size := by omega
        go_wp2_with fail
        refine (dw_any B _ Hc1.out hBw1).mono ?_
        rintro e w2 ⟨⟨y, rfl, ye⟩, hc2, ho2⟩
        have hr2 := own_blk ho2 hne Hr1.out
        have Hown2 := Lib.hid (row_own Hown1.out ho2 hB)
        obtain ⟨c0, c1, c2, c3, c4⟩ := blk_cells5 hr2
        have f1 := fun o => free_at hr2 o
        have zz := lt_of_block hr2
        go_upto_region 8 with fail
        have Hr3 := Lib.hid (set5_at (u0 := .int .i64 y.n.a) (u1 := .int .i64 y.n.b) (u2 := .int .i64 y.n.c) (u3 := .int .i64 y.n.d) (u4 := .int .i64 y.e) hr2)
        have Hown3 := Lib.hid (row_set5 (g := wr.heap.size) (u0 := .int .i64 y.n.a) (u1 := .int .i64 y.n.b) (u2 := .int .i64 y.n.c) (u3 := .int .i64 y.n.d) (u4 := .int .i64 y.e) Hown2.out hlk)
        have Ho3 := Lib.hid (own_dn (own_dn (own_dn (own_dn (own_dn (own_trans Ho1.out ho2) 0 (.int .i64 y.n.a) hsz) 1 (.int .i64 y.n.b) hsz) 2 (.int .i64 y.n.c) hsz) 3 (.int .i64 y.n.d) hsz) 4 (.int .i64 y.e) hsz)
        have Hc3 := Lib.hid (CurAt.far5 (g := wr.heap.size) (u0 := .int .i64 y.n.a) (u1 := .int .i64 y.n.b) (u2 := .int .i64 y.n.c) (u3 := .int .i64 y.n.d) (u4 := .int .i64 y.e) hc2 hBw)
        clear c0 c1 c2 c3 c4 f1 Hown2 hc2 hr2
        generalize ((((w2.setCell ⟨wr.heap.size, 0, none⟩ (.int .i64 y.n.a)).setCell ⟨wr.heap.size, 1, none⟩ (.int .i64 y.n.b)).setCell ⟨wr.heap.size, 2, none⟩ (.int .i64 y.n.c)).setCell ⟨wr.heap.size, 3, none⟩ (.int .i64 y.n.d)).setCell ⟨wr.heap.size, 4, none⟩ (.int .i64 y.e) = W3 at *
        obtain ⟨c0, c1, c2, c3, c4⟩ := blk_cells5 Hr3.out
        have zz3 := lt_of_block Hr3.out
        have hs3 := Ho3.out.size
        go_wp2_with (first
          | (at_builtin; refine wpList_append_own _ rfl _ _ 59 rfl w.heap.size 70 i0 (.agg #[.int .i64 0, .int .i64 0, .int .i64 0, .int .i64 0, .int .i64 0]) 5 40 Tryz.underlying59 hi hz0 hz1 hz2 rfl (by decide) _ _ _ rfl (Hown3.out.alloc _) ⟨W3.heap.size, 0, none⟩ 1 1 (fl y) rfl rfl (fl_new _ _ _) (fl_plain _) ?d3 ?d4 ?d5 ?_))
        case d3 => unfold maxLen; omega
        case d4 => omega
        case d5 => first | omega | (simp; omega) | (simp; omega)
        intro v' w4 hown' hgrow _
        have hge : ∀ k, Value.ownBlock _ = some k → w.heap.size ≤ k := fun k hk => (Hown3.out.lt k hk).1
        have Ho4 := Lib.hid (own_grown (own_alloc Ho3.out (.cells #[.int .i64 (y).n.a, .int .i64 (y).n.b, .int .i64 (y).n.c, .int .i64 (y).n.d, .int .i64 (y).e] 70)) hgrow hge)
        have Hc4 := Lib.hid ((Hc3.out.below ((Below.refl W3.heap.size W3).alloc (Nat.le_refl _) (.cells #[.int .i64 (y).n.a, .int .i64 (y).n.b, .int .i64 (y).n.c, .int .i64 (y).n.d, .int .i64 (y).e] 70)) (by omega)).below ((Below.refl w.heap.size _).grown hgrow (by simp; omega) hge) hB)
        rw [flat_snoc] at hown'
        have Hown4 := Lib.hid hown'
        clear hown' hgrow hge
        go_wp2_with fail
        go_roundw
        case rel => exact ⟨j + 1, l ++ [y], by go_num, by omega, by simp [hl], Lib.hid (He.out.snoc ye), Hown4.out, Hc4, Ho4⟩
        case measure => simp [intOf]; omega
    · obtain rfl : j = 4 := by omega
      go_wp2_with fail
      go_ret
      have hown := Hown.out
      rw [← hl] at hown
      exact ⟨⟨_, l, rfl, hl, He.out, DSl.of_own hown⟩, Hc.out, Ho.out⟩
set_option maxRecDepth 100000 in
set_option maxHeartbeats 3200000 in
theorem vec3 (B : Nat) (w : World) (hcur : CurAt w B) (hB : B < w.heap.size) :
    Calls Tryz.prog 117 #[.pointer (some ⟨B, 0, none⟩), .int .i64 3] w fun e w' => (∃ v l, e = .returned v ∧ List.length l = 8 ∧ Eb l ∧ DSl w' w.heap.size v l) ∧ CurAt w' B ∧ Own B w w' := by
  obtain ⟨i0, hi, hz0, hz1, hz2⟩ := info_parts infoDw
  have Hc0 := Lib.hid (hcur.own (own_alloc (own_refl w.heap.size w) (.cells #[] 70)) hB)
  have Ho0 := Lib.hid (own_alloc (own_refl B w) (.cells #[] 70))
  clear hcur
  go_enter Tryz.func117, Tryz.ntmps117
  go_wp2_with fail
  go_loopw [5, 6] (fun out i wr => ∃ (j : Nat) (l : List Dw), i = .int .i64 j ∧ j ≤ 8 ∧ List.length l = j ∧ Hid (Eb l) ∧ Hid (wr.ownsRow w.heap.size 70 5 out j (flat l)) ∧ Hid (CurAt wr B) ∧ Hid (Own B w wr)) (fun _ i _ => 8 - (intOf i).toNat)
  case atStart => exact ⟨0, [], rfl, by omega, rfl, Lib.hid (fun x h => absurd h List.not_mem_nil), own_new rfl, Hc0, Ho0⟩
  case round =>
    obtain ⟨j, l, rfl, hj, hl, He, Hown, Hc, Ho⟩ := hrel
    by_cases hlt : j < 8
    · have hjl : (j : Int) < 8 := by omega
      have hsz := Ho.out.size
      have hBw : B < wr.heap.size := by omega
      have Hz := Lib.hid (heap_alloc_new wr (.cells #[.int .i64 0, .int .i64 0, .int .i64 0, .int .i64 0, .int .i64 0] 70))
      have Hca := Lib.hid (Hc.out.own (own_alloc (own_refl wr.heap.size wr) (.cells #[.int .i64 0, .int .i64 0, .int .i64 0, .int .i64 0, .int .i64 0] 70)) hBw)
      have Hoa := Lib.hid (own_alloc Ho.out (.cells #[.int .i64 0, .int .i64 0, .int .i64 0, .int .i64 0, .int .i64 0] 70))
      have Howa := Lib.hid (Hown.out.alloc (.cells #[.int .i64 0, .int .i64 0, .int .i64 0, .int .i64 0, .int .i64 0] 70))
      have hlk : ∀ k, Value.ownBlock _ = some k → k ≠ wr.heap.size := fun k hk => by have := (Hown.out.lt k hk).2; omega
      have hne : wr.heap.size ≠ B := by omega
      clear Hown Hc Ho
      go_wp2_with fail
      refine (once_any B 2 _ Hca.out (by omega) (by omega)).mono ?_
      rintro e w1 ⟨⟨x, rfl⟩, hc1, ho1⟩
      have hr1 := own_blk ho1 hne Hz.out
      have Hown1 := Lib.hid (row_own Howa.out ho1 hB)
      have Hc1 := Lib.hid hc1
      have Ho1 := Lib.hid (own_trans Hoa.out ho1)
      have hs1 := ho1.size
      simp at hs1
      have Hr1 := Lib.hid hr1
      clear hc1 ho1 hr1 Hca Hoa Howa
      cases x with
      | false =>
        obtain ⟨c0, c1, c2, c3, c4⟩ := blk_cells5 Hr1.out
        have zz := lt_of_block Hr1.out
        go_wp2_with (first
          | (at_builtin; refine wpList_append_own _ rfl _ _ 59 rfl w.heap.size 70 i0 (.agg #[.int .i64 0, .int .i64 0, .int .i64 0, .int .i64 0, .int .i64 0]) 5 40 Tryz.underlying59 hi hz0 hz1 hz2 rfl (by decide) _ _ _ rfl (Hown1.out.alloc _) ⟨w1.heap.size, 0, none⟩ 1 1 (fl Dw.zero) rfl rfl (fl_new _ _ _) (fl_plain _) ?d3 ?d4 ?d5 ?_))
        case d3 => unfold maxLen; omega
        case d4 => omega
        case d5 => first | omega | (simp; omega) | (simp; omega)
        intro v' w4 hown' hgrow _
        have hge : ∀ k, Value.ownBlock _ = some k → w.heap.size ≤ k := fun k hk => (Hown1.out.lt k hk).1
        have Ho4 := Lib.hid (own_grown (own_alloc Ho1.out (.cells #[.int .i64 (Dw.zero).n.a, .int .i64 (Dw.zero).n.b, .int .i64 (Dw.zero).n.c, .int .i64 (Dw.zero).n.d, .int .i64 (Dw.zero).e] 70)) hgrow hge)
        have Hc4 := Lib.hid ((Hc1.out.below ((Below.refl w1.heap.size w1).alloc (Nat.le_refl _) (.cells #[.int .i64 (Dw.zero).n.a, .int .i64 (Dw.zero).n.b, .int .i64 (Dw.zero).n.c, .int .i64 (Dw.zero).n.d, .int .i64 (Dw.zero).e] 70)) (by omega)).below ((Below.refl w.heap.size _).grown hgrow (by simp; omega) hge) hB)
        rw [flat_snoc] at hown'
        have Hown4 := Lib.hid hown'
        clear hown' hgrow hge
        go_wp2_with fail
        go_roundw
        case rel => exact ⟨j + 1, l ++ [Dw.zero], by go_num, by omega, by simp [hl], Lib.hid (He.out.snoc zero_eb), Hown4.out, Hc4, Ho4⟩
        case measure => simp [intOf]; omega
      | true =>
        have hBw1 : B < w1.heap.size := by omega
        go_wp2_with fail
        refine (dw_any B _ Hc1.out hBw1).mono ?_
        rintro e w2 ⟨⟨y, rfl, ye⟩, hc2, ho2⟩
        have hr2 := own_blk ho2 hne Hr1.out
        have Hown2 := Lib.hid (row_own Hown1.out ho2 hB)
        obtain ⟨c0, c1, c2, c3, c4⟩ := blk_cells5 hr2
        have f1 := fun o => free_at hr2 o
        have zz := lt_of_block hr2
        go_upto_region 8 with fail
        have Hr3 := Lib.hid (set5_at (u0 := .int .i64 y.n.a) (u1 := .int .i64 y.n.b) (u2 := .int .i64 y.n.c) (u3 := .int .i64 y.n.d) (u4 := .int .i64 y.e) hr2)
        have Hown3 := Lib.hid (row_set5 (g := wr.heap.size) (u0 := .int .i64 y.n.a) (u1 := .int .i64 y.n.b) (u2 := .int .i64 y.n.c) (u3 := .int .i64 y.n.d) (u4 := .int .i64 y.e) Hown2.out hlk)
        have Ho3 := Lib.hid (own_dn (own_dn (own_dn (own_dn (own_dn (own_trans Ho1.out ho2) 0 (.int .i64 y.n.a) hsz) 1 (.int .i64 y.n.b) hsz) 2 (.int .i64 y.n.c) hsz) 3 (.int .i64 y.n.d) hsz) 4 (.int .i64 y.e) hsz)
        have Hc3 := Lib.hid (CurAt.far5 (g := wr.heap.size) (u0 := .int .i64 y.n.a) (u1 := .int .i64 y.n.b) (u2 := .int .i64 y.n.c) (u3 := .int .i64 y.n.d) (u4 := .int .i64 y.e) hc2 hBw)
        clear c0 c1 c2 c3 c4 f1 Hown2 hc2 hr2
        generalize ((((w2.setCell ⟨wr.heap.size, 0, none⟩ (.int .i64 y.n.a)).setCell ⟨wr.heap.size, 1, none⟩ (.int .i64 y.n.b)).setCell ⟨wr.heap.size, 2, none⟩ (.int .i64 y.n.c)).setCell ⟨wr.heap.size, 3, none⟩ (.int .i64 y.n.d)).setCell ⟨wr.heap.size, 4, none⟩ (.int .i64 y.e) = W3 at *
        obtain ⟨c0, c1, c2, c3, c4⟩ := blk_cells5 Hr3.out
        have zz3 := lt_of_block Hr3.out
        have hs3 := Ho3.out.size
        go_wp2_with (first
          | (at_builtin; refine wpList_append_own _ rfl _ _ 59 rfl w.heap.size 70 i0 (.agg #[.int .i64 0, .int .i64 0, .int .i64 0, .int .i64 0, .int .i64 0]) 5 40 Tryz.underlying59 hi hz0 hz1 hz2 rfl (by decide) _ _ _ rfl (Hown3.out.alloc _) ⟨W3.heap.size, 0, none⟩ 1 1 (fl y) rfl rfl (fl_new _ _ _) (fl_plain _) ?d3 ?d4 ?d5 ?_))
        case d3 => unfold maxLen; omega
        case d4 => omega
        case d5 => first | omega | (simp; omega) | (simp; omega)
        intro v' w4 hown' hgrow _
        have hge : ∀ k, Value.ownBlock _ = some k → w.heap.size ≤ k := fun k hk => (Hown3.out.lt k hk).1
        have Ho4 := Lib.hid (own_grown (own_alloc Ho3.out (.cells #[.int .i64 (y).n.a, .int .i64 (y).n.b, .int .i64 (y).n.c, .int .i64 (y).n.d, .int .i64 (y).e] 70)) hgrow hge)
        have Hc4 := Lib.hid ((Hc3.out.below ((Below.refl W3.heap.size W3).alloc (Nat.le_refl _) (.cells #[.int .i64 (y).n.a, .int .i64 (y).n.b, .int .i64 (y).n.c, .int .i64 (y).n.d, .int .i64 (y).e] 70)) (by omega)).below ((Below.refl w.heap.size _).grown hgrow (by simp; omega) hge) hB)
        rw [flat_snoc] at hown'
        have Hown4 := Lib.hid hown'
        clear hown' hgrow hge
        go_wp2_with fail
        go_roundw
        case rel => exact ⟨j + 1, l ++ [y], by go_num, by omega, by simp [hl], Lib.hid (He.out.snoc ye), Hown4.out, Hc4, Ho4⟩
        case measure => simp [intOf]; omega
    · obtain rfl : j = 8 := by omega
      go_wp2_with fail
      go_ret
      have hown := Hown.out
      rw [← hl] at hown
      exact ⟨⟨_, l, rfl, hl, He.out, DSl.of_own hown⟩, Hc.out, Ho.out⟩
end Go.Proofs.YtlmiebeffdcfhaaGreat
namespace Go.Proofs.YtlmiebeffdcfhaaGreat
open Go.RowKit
theorem below_dn {B : Nat} {a w : World} (h : Below B a w) (n : Nat) : Below B a (w.drewN n) := h.trans ⟨rfl, rfl, rfl, Nat.le_refl _, fun _ _ => rfl⟩
theorem eq_take {a b : List Dw} (_ : a.length = b.length) {j : Nat} {x y : Dw} (hx : a[j]? = some x) (hy : b[j]? = some y) (h : a.take j = b.take j) (hxy : x = y) : a.take (j + 1) = b.take (j + 1) := by
  rw [List.take_add_one, List.take_add_one, h, hx, hy, hxy]
attribute [local irreducible] World.cell?
set_option maxRecDepth 100000 in
set_option maxHeartbeats 1600000 in
theorem sequalSt (B C : Nat) (v u : Value) (a b : List Dw) (w : World) (hv : DSl w B v a) (hu : DSl w C u b) (hm : a.length ≤ 1048576) (_ : b.length ≤ 1048576) :
    Calls Tryz.prog 45 #[v, u] w fun e w' => e = .returned (.bool (decide (a = b))) ∧ Below w.heap.size w w' := by
  obtain ⟨p, cap, rfl, hcap, hr⟩ := hv
  obtain ⟨p', cap', rfl, hcap', hr'⟩ := hu
  have Hr := Lib.hid hr
  have Hr' := Lib.hid hr'
  clear hr hr'
  by_cases hl : a.length = b.length
  · have hd : ((a.length : Int) == b.length) = true := by simp; omega
    have hd2 : ((a.length : Int) != b.length) = false := by simp; omega
    obtain ⟨T, hT⟩ : ∃ T, T = decide (a = b) := ⟨_, rfl⟩
    rw [← hT]
    have HT := Lib.hid hT
    clear hT
    go_enter Tryz.func45, Tryz.ntmps45
    go_wp2_with fail
    go_loopw [5] (fun i wr => ∃ j : Nat, j ≤ a.length ∧ i = .int .i64 j ∧ Hid (a.take j = b.take j) ∧ Hid (Below w.heap.size w wr)) (fun i _ => a.length - (intOf i).toNat)
    case atStart => exact ⟨0, Nat.zero_le _, rfl, Lib.hid rfl, Below.refl _ _⟩
    case round =>
      obtain ⟨j, hj, rfl, Heq, Hb⟩ := hrel
      by_cases hlt : j < a.length
      · obtain ⟨g, rfl, _, hrow⟩ := Hr.out (by omega)
        obtain ⟨g', rfl, _, hrow'⟩ := Hr'.out (by omega)
        obtain ⟨x, hx⟩ : ∃ x, a[j]? = some x := ⟨a[j], List.getElem?_eq_getElem hlt⟩
        obtain ⟨y, hy⟩ : ∃ y, b[j]? = some y := ⟨b[j], List.getElem?_eq_getElem (by omega)⟩
        have r1 := hrow.below Hb.out hrow.lt
        have r2 := hrow'.below Hb.out hrow'.lt
        obtain ⟨c0, c1, c2, c3, c4⟩ := r1.cells hx
        obtain ⟨d0, d1, d2, d3, d4⟩ := r2.cells hy
        have hne := neD x y
        have Hx := Lib.hid hx
        have Hy := Lib.hid hy
        clear hx hy r1 r2 hrow hrow'
        go_upto_region 6 with fail
        by_cases hxy : x = y
        · rw [eqDB_iff.2 hxy] at hne
          have Hxy := Lib.hid hxy
          clear hxy
          go_quiet (fail)
          go_wp2_with fail
          go_roundw
          case rel => exact ⟨j + 1, by omega, by go_num, Lib.hid (eq_take hl Hx.out Hy.out Heq.out Hxy.out), below_dn Hb.out _⟩
          case measure => simp [intOf]; omega
        · rw [eqDB_no hxy] at hne
          have hF : a ≠ b := fun h => hxy (by have h1 := Hx.out; rw [h, Hy.out] at h1; injection h1 with h1; exact h1.symm)
          obtain rfl : T = false := HT.out.trans (decide_eq_false hF)
          clear hF hxy
          go_quiet (fail)
          go_wp2_with fail
          go_ret
          exact ⟨rfl, below_dn Hb.out _⟩
      · obtain rfl : j = a.length := by omega
        have hE := Heq.out
        rw [List.take_length, List.take_of_length_le (by omega)] at hE
        obtain rfl : T = true := HT.out.trans (decide_eq_true hE)
        go_wp2_with fail
        go_ret
        exact ⟨rfl, Hb.out⟩
  · have hd : ((a.length : Int) == b.length) = false := by simp; omega
    have hd2 : ((a.length : Int) != b.length) = true := by simp; omega
    rw [decide_eq_false (fun h => hl (by rw [h]))]
    go_enter Tryz.func45, Tryz.ntmps45
    go_wp2_with fail
    go_ret
    exact ⟨rfl, Below.refl _ _⟩
end Go.Proofs.YtlmiebeffdcfhaaGreat
namespace Go.Proofs.YtlmiebeffdcfhaaGreat
open Go.RowKit
theorem zip_at {a b : List Dw} {j : Nat} {x y : Dw} (hx : a[j]? = some x) (hy : b[j]? = some y) : (a.zip b)[j]? = some (x, y) := by
  rw [List.getElem?_zip_eq_some]; exact ⟨hx, hy⟩
theorem ok_eb {x : Dw} (h : x.ok) : -9223372036854775808 ≤ x.e ∧ x.e ≤ 9223372036854775807 := by have := h.2; omega
attribute [local irreducible] World.cell?
end Go.Proofs.YtlmiebeffdcfhaaGreat
namespace Go.Proofs.YtlmiebeffdcfhaaGreat
open Go.RowKit
theorem mul_eb (x y : Dw) : -9223372036854775808 ≤ (dMulV x y).e ∧ (dMulV x y).e ≤ 9223372036854775807 := by
  cases h : dMulB x y
  · rw [show dMulV x y = .zero from if_neg (by rw [h]; decide)]; exact ⟨by decide, by decide⟩
  · exact ok_eb (dMulV_ok h)
theorem zero_ok : Dw.zero.ok := by decide
attribute [local irreducible] World.cell?
end Go.Proofs.YtlmiebeffdcfhaaGreat
namespace Go.Proofs.YtlmiebeffdcfhaaGreat
open Go.RowKit
theorem DsIn.mono {w : World} {B C : Nat} {a0 : Option Addr} {l : List Dw} (h : DsIn w B a0 l) (hC : B ≤ C) : DsIn w C a0 l :=
  ⟨h.1, h.2.1, fun h0 => by obtain ⟨b, off, e, hlt, hc⟩ := h.2.2 h0; exact ⟨b, off, e, by omega, hc⟩⟩
theorem DsIn.eb {w : World} {B : Nat} {a0 : Option Addr} {l : List Dw} (h : DsIn w B a0 l) : Eb l := h.2.1
end Go.Proofs.YtlmiebeffdcfhaaGreat
