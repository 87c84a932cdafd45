/- Draws of gates and circuits of the model. -/
import Derived.Test.YtckfklpgnneodaaGtB
import Derived.Test.YtckfklpgnneodaaBaseB01
import Derived.Deep.AppendLies
import Derived.Deep.RegionLaw
namespace Go.Proofs.Ytckfklpgnneodaa
open Go.RowKit
theorem own_under {B C : Nat} {a b c : World} (h : Own B a b) (k : Below C b c) (hC : a.heap.size ≤ C) : Own B a c :=
  ⟨k.os.trans h.os, k.tape.trans h.tape, k.output.trans h.output, Nat.le_trans h.size k.size, fun i hi hn => (k.block i (Nat.lt_of_lt_of_le hi hC)).trans (h.block i hi hn)⟩
/-- A gate that was drawn: each of its numbers is small. -/
def GtBd (g : Gt) : Prop := (1 ≤ g.k ∧ g.k ≤ 12) ∧ (0 ≤ g.a ∧ g.a ≤ 3) ∧ (0 ≤ g.b ∧ g.b ≤ 3) ∧ 0 ≤ g.c ∧ g.c ≤ 3
attribute [local irreducible] World.cell?
set_option maxRecDepth 100000 in
set_option maxHeartbeats 3200000 in
theorem on1 (B n : Nat) (k : Int) (w : World) (hcur : CurAt w B) (hB : B < w.heap.size) (k0 : 1 ≤ k) (k1 : k ≤ 12) (h1 : 1 ≤ n) (h4 : n ≤ 4) (ht : ar k = 1) (_ : 1 ≤ n) :
    Calls Try.prog 72 #[.pointer (some ⟨B, 0, none⟩), .int .i64 k, .int .i64 n] w fun e w' => (∃ g, e = .returned (.agg #[.int .i64 g.k, .int .i64 g.a, .int .i64 g.b, .int .i64 g.c]) ∧ GtBd g) ∧ CurAt w' B ∧ Own B w w' := by
  have Ha := Lib.hid (fun w => sar k w)
  rw [ht] at Ha
  clear ht
  have HR := Lib.hid (heap_alloc_new w (.cells #[.int .i64 0, .int .i64 0, .int .i64 0, .int .i64 0] 59))
  have Hc0 := Lib.hid (hcur.own (own_alloc (own_refl w.heap.size w) (.cells #[.int .i64 0, .int .i64 0, .int .i64 0, .int .i64 0] 59)) hB)
  have Hz := Lib.hid (show B < (w.alloc (.cells #[.int .i64 0, .int .i64 0, .int .i64 0, .int .i64 0] 59)).heap.size by simp; omega)
  go_enter Try.func72, Try.ntmps72
  go_wp2_with fail
  refine (perm_any B n _ Hc0.out Hz.out h1 h4).mono ?_
  rintro e w1 ⟨⟨v, l, rfl, hl, hbd, hd⟩, hc1, ho1⟩
  have hne : w.heap.size ≠ B := by omega
  have hR1 := own_blk ho1 hne HR.out
  have hs1 := ho1.size
  have Hc1 := Lib.hid hc1
  have Ho1 := Lib.hid (own_trans (own_alloc (own_refl B w) (.cells #[.int .i64 0, .int .i64 0, .int .i64 0, .int .i64 0] 59)) ho1)
  obtain ⟨a, cap, rfl, hcap, hr⟩ := hd
  obtain ⟨g, rfl, hg, hrow⟩ := hr (by omega)
  have hgl := hrow.lt
  obtain ⟨x, hx⟩ : ∃ x, l[0]? = some x := ⟨l[0], List.getElem?_eq_getElem (by omega)⟩
  have cx := IRow.cell hrow hx
  have bx := hbd x (List.mem_of_getElem? hx)
  obtain ⟨r0, r1, r2, r3⟩ := blk_cells hR1
  have fR := fun o => free_at hR1 o
  have hRl := lt_of_block hR1
  simp at hs1 hg
  have HR1 := Lib.hid hR1
  clear hrow hr hx hbd hc1 ho1 hR1 Hc0 Hz HR
  go_wp2_with fail
  refine (Ha.out _).mono ?_
  rintro e w2 ⟨rfl, rfl⟩
  go_wp2_with fail
  refine (Ha.out _).mono ?_
  rintro e w3 ⟨rfl, rfl⟩
  go_wp2_with fail
  obtain ⟨k0', k1', k2', k3'⟩ := blk_cells (alloc_blk (.cells #[.int .i64 ((Gt.mk k x 0 0)).k, .int .i64 ((Gt.mk k x 0 0)).a, .int .i64 ((Gt.mk k x 0 0)).b, .int .i64 ((Gt.mk k x 0 0)).c] 59) (set4_at (u0 := .int .i64 k) (u1 := .int .i64 x) (u2 := .int .i64 0) (u3 := .int .i64 0) HR1.out))
  have hgb : GtBd (Gt.mk k x 0 0) := by
    simp only [GtBd]
    omega
  refine bodyPost_ret (v := (.agg #[.int .i64 ((Gt.mk k x 0 0)).k, .int .i64 ((Gt.mk k x 0 0)).a, .int .i64 ((Gt.mk k x 0 0)).b, .int .i64 ((Gt.mk k x 0 0)).c])) (by simp only [results, Try.results72]; simp [go_sem, k0', k1', k2', k3']) rfl ⟨⟨(Gt.mk k x 0 0), rfl, hgb⟩, ?_, ?_⟩
  · refine Hc1.out.below (C := w.heap.size) ?_ hB
    have := Below.refl w1.heap.size w1
    go_grown
  · refine own_under Ho1.out (C := w.heap.size) ?_ (Nat.le_refl _)
    have := Below.refl w1.heap.size w1
    go_grown
set_option maxRecDepth 100000 in
set_option maxHeartbeats 3200000 in
theorem on2 (B n : Nat) (k : Int) (w : World) (hcur : CurAt w B) (hB : B < w.heap.size) (k0 : 1 ≤ k) (k1 : k ≤ 12) (h1 : 1 ≤ n) (h4 : n ≤ 4) (ht : ar k = 2) (hn : 2 ≤ n) :
    Calls Try.prog 72 #[.pointer (some ⟨B, 0, none⟩), .int .i64 k, .int .i64 n] w fun e w' => (∃ g, e = .returned (.agg #[.int .i64 g.k, .int .i64 g.a, .int .i64 g.b, .int .i64 g.c]) ∧ GtBd g) ∧ CurAt w' B ∧ Own B w w' := by
  have Ha := Lib.hid (fun w => sar k w)
  rw [ht] at Ha
  clear ht
  have HR := Lib.hid (heap_alloc_new w (.cells #[.int .i64 0, .int .i64 0, .int .i64 0, .int .i64 0] 59))
  have Hc0 := Lib.hid (hcur.own (own_alloc (own_refl w.heap.size w) (.cells #[.int .i64 0, .int .i64 0, .int .i64 0, .int .i64 0] 59)) hB)
  have Hz := Lib.hid (show B < (w.alloc (.cells #[.int .i64 0, .int .i64 0, .int .i64 0, .int .i64 0] 59)).heap.size by simp; omega)
  go_enter Try.func72, Try.ntmps72
  go_wp2_with fail
  refine (perm_any B n _ Hc0.out Hz.out h1 h4).mono ?_
  rintro e w1 ⟨⟨v, l, rfl, hl, hbd, hd⟩, hc1, ho1⟩
  have hne : w.heap.size ≠ B := by omega
  have hR1 := own_blk ho1 hne HR.out
  have hs1 := ho1.size
  have Hc1 := Lib.hid hc1
  have Ho1 := Lib.hid (own_trans (own_alloc (own_refl B w) (.cells #[.int .i64 0, .int .i64 0, .int .i64 0, .int .i64 0] 59)) ho1)
  obtain ⟨a, cap, rfl, hcap, hr⟩ := hd
  obtain ⟨g, rfl, hg, hrow⟩ := hr (by omega)
  have hgl := hrow.lt
  obtain ⟨x, hx⟩ : ∃ x, l[0]? = some x := ⟨l[0], List.getElem?_eq_getElem (by omega)⟩
  have cx := IRow.cell hrow hx
  have bx := hbd x (List.mem_of_getElem? hx)
  obtain ⟨r0, r1, r2, r3⟩ := blk_cells hR1
  have fR := fun o => free_at hR1 o
  have hRl := lt_of_block hR1
  simp at hs1 hg
  obtain ⟨y, hy⟩ : ∃ y, l[1]? = some y := ⟨l[1], List.getElem?_eq_getElem (by omega)⟩
  have cy := IRow.cell hrow hy
  have bdy := hbd y (List.mem_of_getElem? hy)
  clear hy
  have HR1 := Lib.hid hR1
  clear hrow hr hx hbd hc1 ho1 hR1 Hc0 Hz HR
  go_wp2_with fail
  refine (Ha.out _).mono ?_
  rintro e w2 ⟨rfl, rfl⟩
  go_wp2_with fail
  refine (Ha.out _).mono ?_
  rintro e w3 ⟨rfl, rfl⟩
  go_wp2_with fail
  obtain ⟨k0', k1', k2', k3'⟩ := blk_cells (alloc_blk (.cells #[.int .i64 ((Gt.mk k x y 0)).k, .int .i64 ((Gt.mk k x y 0)).a, .int .i64 ((Gt.mk k x y 0)).b, .int .i64 ((Gt.mk k x y 0)).c] 59) (set4_at (u0 := .int .i64 k) (u1 := .int .i64 x) (u2 := .int .i64 y) (u3 := .int .i64 0) HR1.out))
  have hgb : GtBd (Gt.mk k x y 0) := by
    simp only [GtBd]
    omega
  refine bodyPost_ret (v := (.agg #[.int .i64 ((Gt.mk k x y 0)).k, .int .i64 ((Gt.mk k x y 0)).a, .int .i64 ((Gt.mk k x y 0)).b, .int .i64 ((Gt.mk k x y 0)).c])) (by simp only [results, Try.results72]; simp [go_sem, k0', k1', k2', k3']) rfl ⟨⟨(Gt.mk k x y 0), rfl, hgb⟩, ?_, ?_⟩
  · refine Hc1.out.below (C := w.heap.size) ?_ hB
    have := Below.refl w1.heap.size w1
    go_grown
  · refine own_under Ho1.out (C := w.heap.size) ?_ (Nat.le_refl _)
    have := Below.refl w1.heap.size w1
    go_grown
set_option maxRecDepth 100000 in
set_option maxHeartbeats 3200000 in
theorem on3 (B n : Nat) (k : Int) (w : World) (hcur : CurAt w B) (hB : B < w.heap.size) (k0 : 1 ≤ k) (k1 : k ≤ 12) (h1 : 1 ≤ n) (h4 : n ≤ 4) (ht : ar k = 3) (hn : 3 ≤ n) :
    Calls Try.prog 72 #[.pointer (some ⟨B, 0, none⟩), .int .i64 k, .int .i64 n] w fun e w' => (∃ g, e = .returned (.agg #[.int .i64 g.k, .int .i64 g.a, .int .i64 g.b, .int .i64 g.c]) ∧ GtBd g) ∧ CurAt w' B ∧ Own B w w' := by
  have Ha := Lib.hid (fun w => sar k w)
  rw [ht] at Ha
  clear ht
  have HR := Lib.hid (heap_alloc_new w (.cells #[.int .i64 0, .int .i64 0, .int .i64 0, .int .i64 0] 59))
  have Hc0 := Lib.hid (hcur.own (own_alloc (own_refl w.heap.size w) (.cells #[.int .i64 0, .int .i64 0, .int .i64 0, .int .i64 0] 59)) hB)
  have Hz := Lib.hid (show B < (w.alloc (.cells #[.int .i64 0, .int .i64 0, .int .i64 0, .int .i64 0] 59)).heap.size by simp; omega)
  go_enter Try.func72, Try.ntmps72
  go_wp2_with fail
  refine (perm_any B n _ Hc0.out Hz.out h1 h4).mono ?_
  rintro e w1 ⟨⟨v, l, rfl, hl, hbd, hd⟩, hc1, ho1⟩
  have hne : w.heap.size ≠ B := by omega
  have hR1 := own_blk ho1 hne HR.out
  have hs1 := ho1.size
  have Hc1 := Lib.hid hc1
  have Ho1 := Lib.hid (own_trans (own_alloc (own_refl B w) (.cells #[.int .i64 0, .int .i64 0, .int .i64 0, .int .i64 0] 59)) ho1)
  obtain ⟨a, cap, rfl, hcap, hr⟩ := hd
  obtain ⟨g, rfl, hg, hrow⟩ := hr (by omega)
  have hgl := hrow.lt
  obtain ⟨x, hx⟩ : ∃ x, l[0]? = some x := ⟨l[0], List.getElem?_eq_getElem (by omega)⟩
  have cx := IRow.cell hrow hx
  have bx := hbd x (List.mem_of_getElem? hx)
  obtain ⟨r0, r1, r2, r3⟩ := blk_cells hR1
  have fR := fun o => free_at hR1 o
  have hRl := lt_of_block hR1
  simp at hs1 hg
  obtain ⟨y, hy⟩ : ∃ y, l[1]? = some y := ⟨l[1], List.getElem?_eq_getElem (by omega)⟩
  have cy := IRow.cell hrow hy
  have bdy := hbd y (List.mem_of_getElem? hy)
  clear hy
  obtain ⟨z, hz⟩ : ∃ z, l[2]? = some z := ⟨l[2], List.getElem?_eq_getElem (by omega)⟩
  have cz := IRow.cell hrow hz
  have bdz := hbd z (List.mem_of_getElem? hz)
  clear hz
  have HR1 := Lib.hid hR1
  clear hrow hr hx hbd hc1 ho1 hR1 Hc0 Hz HR
  go_wp2_with fail
  refine (Ha.out _).mono ?_
  rintro e w2 ⟨rfl, rfl⟩
  go_wp2_with fail
  refine (Ha.out _).mono ?_
  rintro e w3 ⟨rfl, rfl⟩
  go_wp2_with fail
  obtain ⟨k0', k1', k2', k3'⟩ := blk_cells (alloc_blk (.cells #[.int .i64 ((Gt.mk k x y z)).k, .int .i64 ((Gt.mk k x y z)).a, .int .i64 ((Gt.mk k x y z)).b, .int .i64 ((Gt.mk k x y z)).c] 59) (set4_at (u0 := .int .i64 k) (u1 := .int .i64 x) (u2 := .int .i64 y) (u3 := .int .i64 z) HR1.out))
  have hgb : GtBd (Gt.mk k x y z) := by
    simp only [GtBd]
    omega
  refine bodyPost_ret (v := (.agg #[.int .i64 ((Gt.mk k x y z)).k, .int .i64 ((Gt.mk k x y z)).a, .int .i64 ((Gt.mk k x y z)).b, .int .i64 ((Gt.mk k x y z)).c])) (by simp only [results, Try.results72]; simp [go_sem, k0', k1', k2', k3']) rfl ⟨⟨(Gt.mk k x y z), rfl, hgb⟩, ?_, ?_⟩
  · refine Hc1.out.below (C := w.heap.size) ?_ hB
    have := Below.refl w1.heap.size w1
    go_grown
  · refine own_under Ho1.out (C := w.heap.size) ?_ (Nat.le_refl _)
    have := Below.refl w1.heap.size w1
    go_grown
theorem ar_pos {k : Int} (h0 : 1 ≤ k) (h1 : k ≤ 12) : ar k = 1 ∨ ar k = 2 ∨ ar k = 3 := by
  unfold ar
  (repeat' split) <;> omega
theorem on_any (B n : Nat) (k : Int) (w : World) (hcur : CurAt w B) (hB : B < w.heap.size) (k0 : 1 ≤ k) (k1 : k ≤ 12) (h1 : 1 ≤ n) (h4 : n ≤ 4) (hn : ar k ≤ n) :
    Calls Try.prog 72 #[.pointer (some ⟨B, 0, none⟩), .int .i64 k, .int .i64 n] w fun e w' => (∃ g, e = .returned (.agg #[.int .i64 g.k, .int .i64 g.a, .int .i64 g.b, .int .i64 g.c]) ∧ GtBd g) ∧ CurAt w' B ∧ Own B w w' := by
  rcases ar_pos k0 k1 with h | h | h
  · exact on1 B n k w hcur hB k0 k1 h1 h4 h (by omega)
  · exact on2 B n k w hcur hB k0 k1 h1 h4 h (by omega)
  · exact on3 B n k w hcur hB k0 k1 h1 h4 h (by omega)
end Go.Proofs.Ytckfklpgnneodaa
