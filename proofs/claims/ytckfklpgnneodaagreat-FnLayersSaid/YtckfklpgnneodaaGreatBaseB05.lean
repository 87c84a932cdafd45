/- BaseB05: several of our texts in one: GtP GtD GtE GtS GtKa GtKb GtKc. -/
import Derived.Test.YtckfklpgnneodaaGreatBaseB04
import Derived.Test.YtckfklpgnneodaaGreatGtB
import Derived.Test.YtckfklpgnneodaaGreatBaseB01
import Derived.Deep.AppendLies
import Derived.Deep.RegionLaw
import Derived.Test.YtckfklpgnneodaaGreatBaseB07
import Derived.Test.YtckfklpgnneodaaGreatBaseB13
namespace Go.Proofs.YtckfklpgnneodaaGreat
open Go.RowKit
/-- areDistinctQubits. -/
def dqOk (l : List Int) (n : Int) (j : Nat) : Bool := decide (0 ≤ l.getD j 0 ∧ l.getD j 0 < n) && !decide (l.getD j 0 ∈ l.take j)
def dq (l : List Int) (n : Int) : Bool := (List.range l.length).all (dqOk l n)
theorem wrapN {n : Int} (h : 1 ≤ n ∧ n ≤ 4) : IntKind.i64.wrap (n - 1) = n - 1 := by
  rcases (show n = 1 ∨ n = 2 ∨ n = 3 ∨ n = 4 by omega) with rfl | rfl | rfl | rfl <;> decide +kernel
theorem range3 : List.range 3 = [0, 1, 2] := by decide
theorem range2 : List.range 2 = [0, 1] := by decide
theorem range1 : List.range 1 = [0] := by decide
theorem upTo (x n : Int) : decide (0 ≤ x ∧ x ≤ n - 1) = decide (0 ≤ x ∧ x < n) := decide_eq_decide.2 (by omega)
theorem gtB_no {g : Gt} {n : Int} (h : ¬ (1 ≤ n ∧ n ≤ 4)) : gtB g n = false := by unfold gtB; rw [decide_eq_false h]; simp
theorem gtB_zero {g : Gt} {n : Int} (h : ar g.k = 0) : gtB g n = false := by unfold gtB; rw [h]; simp
theorem gtB_1 {k a b c n : Int} (h : ar k = 1) (hn : 1 ≤ n ∧ n ≤ 4) : gtB ⟨k, a, b, c⟩ n = (decide (b = 0) && decide (c = 0) && dq [a] n) := by
  unfold gtB gtOk dq dqOk gqs
  simp only [h, wrapN hn, range3, List.length_cons, List.length_nil, Nat.zero_add, range1, List.all_cons, List.all_nil, decide_eq_true hn, upTo]
  simp [Bool.and_comm, Bool.and_left_comm]
theorem gtB_2 {k a b c n : Int} (h : ar k = 2) (hn : 1 ≤ n ∧ n ≤ 4) : gtB ⟨k, a, b, c⟩ n = (decide (c = 0) && dq [a, b] n) := by
  unfold gtB gtOk dq dqOk gqs
  simp only [h, wrapN hn, range3, List.length_cons, List.length_nil, Nat.zero_add, Nat.reduceAdd, range2, List.all_cons, List.all_nil, decide_eq_true hn, upTo]
  simp [Bool.and_comm, Bool.and_left_comm]
theorem gtB_3 {k a b c n : Int} (h : ar k = 3) (hn : 1 ≤ n ∧ n ≤ 4) : gtB ⟨k, a, b, c⟩ n = dq [a, b, c] n := by
  unfold gtB gtOk dq dqOk gqs
  simp only [h, wrapN hn, range3, List.length_cons, List.length_nil, Nat.zero_add, Nat.reduceAdd, List.all_cons, List.all_nil, decide_eq_true hn, upTo]
  simp
theorem gtB_parts {g : Gt} {n : Int} (h : gtB g n = true) : (1 ≤ n ∧ n ≤ 4) ∧ (1 ≤ g.k ∧ g.k ≤ 12) ∧ (0 ≤ g.a ∧ g.a < n) ∧ (0 ≤ g.b ∧ g.b < n) ∧ 0 ≤ g.c ∧ g.c < n := by
  unfold gtB at h
  simp only [Bool.and_eq_true, decide_eq_true_eq] at h
  obtain ⟨hall, hpos, hn⟩ := h
  have hw : IntKind.i64.wrap (n - 1) = n - 1 := by rw [IntKind.wrap_i64]; omega
  rw [hw, List.all_eq_true] at hall
  have hk : 1 ≤ g.k ∧ g.k ≤ 12 := by
    unfold ar at hpos
    repeat' split at hpos
    all_goals omega
  have key : ∀ j, j < 3 → 0 ≤ [g.a, g.b, g.c].getD j 0 ∧ [g.a, g.b, g.c].getD j 0 < n := fun j hj => by
    have h := hall j (List.mem_range.2 hj)
    unfold gtOk at h
    split at h
    · have := of_decide_eq_true h; omega
    · rw [Bool.and_eq_true] at h
      have := of_decide_eq_true h.1
      omega
  exact ⟨hn, hk, key 0 (by omega), key 1 (by omega), key 2 (by omega)⟩
end Go.Proofs.YtckfklpgnneodaaGreat
namespace Go.Proofs.YtckfklpgnneodaaGreat
open Go.RowKit
theorem own_under {B C : Nat} {a b c : World} (h : Own B a b) (k : Below C b c) (hC : a.heap.size ≤ C) : Own B a c :=
  ⟨k.os.trans h.os, k.tape.trans h.tape, k.output.trans h.output, Nat.le_trans h.size k.size, fun i hi hn => (k.block i (Nat.lt_of_lt_of_le hi hC)).trans (h.block i hi hn)⟩
/-- A gate that was drawn: each of its numbers is small. -/
def GtBd (g : Gt) : Prop := (1 ≤ g.k ∧ g.k ≤ 12) ∧ (0 ≤ g.a ∧ g.a ≤ 3) ∧ (0 ≤ g.b ∧ g.b ≤ 3) ∧ 0 ≤ g.c ∧ g.c ≤ 3
attribute [local irreducible] World.cell?
set_option maxRecDepth 100000 in
set_option maxHeartbeats 3200000 in
theorem on1 (B n : Nat) (k : Int) (w : World) (hcur : CurAt w B) (hB : B < w.heap.size) (k0 : 1 ≤ k) (k1 : k ≤ 12) (h1 : 1 ≤ n) (h4 : n ≤ 4) (ht : ar k = 1) (_ : 1 ≤ n) :
    Calls Tryz.prog 66 #[.pointer (some ⟨B, 0, none⟩), .int .i64 k, .int .i64 n] w fun e w' => (∃ g, e = .returned (.agg #[.int .i64 g.k, .int .i64 g.a, .int .i64 g.b, .int .i64 g.c]) ∧ GtBd g) ∧ CurAt w' B ∧ Own B w w' := by
  have Ha := Lib.hid (fun w => sar k w)
  rw [ht] at Ha
  clear ht
  have HR := Lib.hid (heap_alloc_new w (.cells #[.int .i64 0, .int .i64 0, .int .i64 0, .int .i64 0] 44))
  have Hc0 := Lib.hid (hcur.own (own_alloc (own_refl w.heap.size w) (.cells #[.int .i64 0, .int .i64 0, .int .i64 0, .int .i64 0] 44)) hB)
  have Hz := Lib.hid (show B < (w.alloc (.cells #[.int .i64 0, .int .i64 0, .int .i64 0, .int .i64 0] 44)).heap.size by simp; omega)
  go_enter Tryz.func66, Tryz.ntmps66
  go_wp2_with fail
  refine (perm_any B n _ Hc0.out Hz.out h1 h4).mono ?_
  rintro e w1 ⟨⟨v, l, rfl, hl, hbd, hd⟩, hc1, ho1⟩
  have hne : w.heap.size ≠ B := by omega
  have hR1 := own_blk ho1 hne HR.out
  have hs1 := ho1.size
  have Hc1 := Lib.hid hc1
  have Ho1 := Lib.hid (own_trans (own_alloc (own_refl B w) (.cells #[.int .i64 0, .int .i64 0, .int .i64 0, .int .i64 0] 44)) ho1)
  obtain ⟨a, cap, rfl, hcap, hr⟩ := hd
  obtain ⟨g, rfl, hg, hrow⟩ := hr (by omega)
  have hgl := hrow.lt
  obtain ⟨x, hx⟩ : ∃ x, l[0]? = some x := ⟨l[0], List.getElem?_eq_getElem (by omega)⟩
  have cx := IRow.cell hrow hx
  have bx := hbd x (List.mem_of_getElem? hx)
  obtain ⟨r0, r1, r2, r3⟩ := blk_cells hR1
  have fR := fun o => free_at hR1 o
  have hRl := lt_of_block hR1
  simp at hs1 hg
  have HR1 := Lib.hid hR1
  clear hrow hr hx hbd hc1 ho1 hR1 Hc0 Hz HR
  go_wp2_with fail
  refine (Ha.out _).mono ?_
  rintro e w2 ⟨rfl, rfl⟩
  go_wp2_with fail
  refine (Ha.out _).mono ?_
  rintro e w3 ⟨rfl, rfl⟩
  go_wp2_with fail
  obtain ⟨k0', k1', k2', k3'⟩ := blk_cells (alloc_blk (.cells #[.int .i64 ((Gt.mk k x 0 0)).k, .int .i64 ((Gt.mk k x 0 0)).a, .int .i64 ((Gt.mk k x 0 0)).b, .int .i64 ((Gt.mk k x 0 0)).c] 44) (set4_at (u0 := .int .i64 k) (u1 := .int .i64 x) (u2 := .int .i64 0) (u3 := .int .i64 0) HR1.out))
  have hgb : GtBd (Gt.mk k x 0 0) := by
    simp only [GtBd]
    omega
  refine bodyPost_ret (v := (.agg #[.int .i64 ((Gt.mk k x 0 0)).k, .int .i64 ((Gt.mk k x 0 0)).a, .int .i64 ((Gt.mk k x 0 0)).b, .int .i64 ((Gt.mk k x 0 0)).c])) (by simp only [results, Tryz.results66]; simp [go_sem, k0', k1', k2', k3']) rfl ⟨⟨(Gt.mk k x 0 0), rfl, hgb⟩, ?_, ?_⟩
  · refine Hc1.out.below (C := w.heap.size) ?_ hB
    have := Below.refl w1.heap.size w1
    go_grown
  · refine own_under Ho1.out (C := w.heap.size) ?_ (Nat.le_refl _)
    have := Below.refl w1.heap.size w1
    go_grown
set_option maxRecDepth 100000 in
set_option maxHeartbeats 3200000 in
theorem on2 (B n : Nat) (k : Int) (w : World) (hcur : CurAt w B) (hB : B < w.heap.size) (k0 : 1 ≤ k) (k1 : k ≤ 12) (h1 : 1 ≤ n) (h4 : n ≤ 4) (ht : ar k = 2) (hn : 2 ≤ n) :
    Calls Tryz.prog 66 #[.pointer (some ⟨B, 0, none⟩), .int .i64 k, .int .i64 n] w fun e w' => (∃ g, e = .returned (.agg #[.int .i64 g.k, .int .i64 g.a, .int .i64 g.b, .int .i64 g.c]) ∧ GtBd g) ∧ CurAt w' B ∧ Own B w w' := by
  have Ha := Lib.hid (fun w => sar k w)
  rw [ht] at Ha
  clear ht
  have HR := Lib.hid (heap_alloc_new w (.cells #[.int .i64 0, .int .i64 0, .int .i64 0, .int .i64 0] 44))
  have Hc0 := Lib.hid (hcur.own (own_alloc (own_refl w.heap.size w) (.cells #[.int .i64 0, .int .i64 0, .int .i64 0, .int .i64 0] 44)) hB)
  have Hz := Lib.hid (show B < (w.alloc (.cells #[.int .i64 0, .int .i64 0, .int .i64 0, .int .i64 0] 44)).heap.size by simp; omega)
  go_enter Tryz.func66, Tryz.ntmps66
  go_wp2_with fail
  refine (perm_any B n _ Hc0.out Hz.out h1 h4).mono ?_
  rintro e w1 ⟨⟨v, l, rfl, hl, hbd, hd⟩, hc1, ho1⟩
  have hne : w.heap.size ≠ B := by omega
  have hR1 := own_blk ho1 hne HR.out
  have hs1 := ho1.size
  have Hc1 := Lib.hid hc1
  have Ho1 := Lib.hid (own_trans (own_alloc (own_refl B w) (.cells #[.int .i64 0, .int .i64 0, .int .i64 0, .int .i64 0] 44)) ho1)
  obtain ⟨a, cap, rfl, hcap, hr⟩ := hd
  obtain ⟨g, rfl, hg, hrow⟩ := hr (by omega)
  have hgl := hrow.lt
  obtain ⟨x, hx⟩ : ∃ x, l[0]? = some x := ⟨l[0], List.getElem?_eq_getElem (by omega)⟩
  have cx := IRow.cell hrow hx
  have bx := hbd x (List.mem_of_getElem? hx)
  obtain ⟨r0, r1, r2, r3⟩ := blk_cells hR1
  have fR := fun o => free_at hR1 o
  have hRl := lt_of_block hR1
  simp at hs1 hg
  obtain ⟨y, hy⟩ : ∃ y, l[1]? = some y := ⟨l[1], List.getElem?_eq_getElem (by omega)⟩
  have cy := IRow.cell hrow hy
  have bdy := hbd y (List.mem_of_getElem? hy)
  clear hy
  have HR1 := Lib.hid hR1
  clear hrow hr hx hbd hc1 ho1 hR1 Hc0 Hz HR
  go_wp2_with fail
  refine (Ha.out _).mono ?_
  rintro e w2 ⟨rfl, rfl⟩
  go_wp2_with fail
  refine (Ha.out _).mono ?_
  rintro e w3 ⟨rfl, rfl⟩
  go_wp2_with fail
  obtain ⟨k0', k1', k2', k3'⟩ := blk_cells (alloc_blk (.cells #[.int .i64 ((Gt.mk k x y 0)).k, .int .i64 ((Gt.mk k x y 0)).a, .int .i64 ((Gt.mk k x y 0)).b, .int .i64 ((Gt.mk k x y 0)).c] 44) (set4_at (u0 := .int .i64 k) (u1 := .int .i64 x) (u2 := .int .i64 y) (u3 := .int .i64 0) HR1.out))
  have hgb : GtBd (Gt.mk k x y 0) := by
    simp only [GtBd]
    omega
  refine bodyPost_ret (v := (.agg #[.int .i64 ((Gt.mk k x y 0)).k, .int .i64 ((Gt.mk k x y 0)).a, .int .i64 ((Gt.mk k x y 0)).b, .int .i64 ((Gt.mk k x y 0)).c])) (by simp only [results, Tryz.results66]; simp [go_sem, k0', k1', k2', k3']) rfl ⟨⟨(Gt.mk k x y 0), rfl, hgb⟩, ?_, ?_⟩
  · refine Hc1.out.below (C := w.heap.size) ?_ hB
    have := Below.refl w1.heap.size w1
    go_grown
  · refine own_under Ho1.out (C := w.heap.size) ?_ (Nat.le_refl _)
    have := Below.refl w1.heap.size w1
    go_grown
set_option maxRecDepth 100000 in
set_option maxHeartbeats 3200000 in
theorem on3 (B n : Nat) (k : Int) (w : World) (hcur : CurAt w B) (hB : B < w.heap.size) (k0 : 1 ≤ k) (k1 : k ≤ 12) (h1 : 1 ≤ n) (h4 : n ≤ 4) (ht : ar k = 3) (hn : 3 ≤ n) :
    Calls Tryz.prog 66 #[.pointer (some ⟨B, 0, none⟩), .int .i64 k, .int .i64 n] w fun e w' => (∃ g, e = .returned (.agg #[.int .i64 g.k, .int .i64 g.a, .int .i64 g.b, .int .i64 g.c]) ∧ GtBd g) ∧ CurAt w' B ∧ Own B w w' := by
  have Ha := Lib.hid (fun w => sar k w)
  rw [ht] at Ha
  clear ht
  have HR := Lib.hid (heap_alloc_new w (.cells #[.int .i64 0, .int .i64 0, .int .i64 0, .int .i64 0] 44))
  have Hc0 := Lib.hid (hcur.own (own_alloc (own_refl w.heap.size w) (.cells #[.int .i64 0, .int .i64 0, .int .i64 0, .int .i64 0] 44)) hB)
  have Hz := Lib.hid (show B < (w.alloc (.cells #[.int .i64 0, .int .i64 0, .int .i64 0, .int .i64 0] 44)).heap.size by simp; omega)
  go_enter Tryz.func66, Tryz.ntmps66
  go_wp2_with fail
  refine (perm_any B n _ Hc0.out Hz.out h1 h4).mono ?_
  rintro e w1 ⟨⟨v, l, rfl, hl, hbd, hd⟩, hc1, ho1⟩
  have hne : w.heap.size ≠ B := by omega
  have hR1 := own_blk ho1 hne HR.out
  have hs1 := ho1.size
  have Hc1 := Lib.hid hc1
  have Ho1 := Lib.hid (own_trans (own_alloc (own_refl B w) (.cells #[.int .i64 0, .int .i64 0, .int .i64 0, .int .i64 0] 44)) ho1)
  obtain ⟨a, cap, rfl, hcap, hr⟩ := hd
  obtain ⟨g, rfl, hg, hrow⟩ := hr (by omega)
  have hgl := hrow.lt
  obtain ⟨x, hx⟩ : ∃ x, l[0]? = some x := ⟨l[0], List.getElem?_eq_getElem (by omega)⟩
  have cx := IRow.cell hrow hx
  have bx := hbd x (List.mem_of_getElem? hx)
  obtain ⟨r0, r1, r2, r3⟩ := blk_cells hR1
  have fR := fun o => free_at hR1 o
  have hRl := lt_of_block hR1
  simp at hs1 hg
  obtain ⟨y, hy⟩ : ∃ y, l[1]? = some y := ⟨l[1], List.getElem?_eq_getElem (by omega)⟩
  have cy := IRow.cell hrow hy
  have bdy := hbd y (List.mem_of_getElem? hy)
  clear hy
  obtain ⟨z, hz⟩ : ∃ z, l[2]? = some z := ⟨l[2], List.getElem?_eq_getElem (by omega)⟩
  have cz := IRow.cell hrow hz
  have bdz := hbd z (List.mem_of_getElem? hz)
  clear hz
  have HR1 := Lib.hid hR1
  clear hrow hr hx hbd hc1 ho1 hR1 Hc0 Hz HR
  go_wp2_with fail
  refine (Ha.out _).mono ?_
  rintro e w2 ⟨rfl, rfl⟩
  go_wp2_with fail
  refine (Ha.out _).mono ?_
  rintro e w3 ⟨rfl, rfl⟩
  go_wp2_with fail
  obtain ⟨k0', k1', k2', k3'⟩ := blk_cells (alloc_blk (.cells #[.int .i64 ((Gt.mk k x y z)).k, .int .i64 ((Gt.mk k x y z)).a, .int .i64 ((Gt.mk k x y z)).b, .int .i64 ((Gt.mk k x y z)).c] 44) (set4_at (u0 := .int .i64 k) (u1 := .int .i64 x) (u2 := .int .i64 y) (u3 := .int .i64 z) HR1.out))
  have hgb : GtBd (Gt.mk k x y z) := by
    simp only [GtBd]
    omega
  refine bodyPost_ret (v := (.agg #[.int .i64 ((Gt.mk k x y z)).k, .int .i64 ((Gt.mk k x y z)).a, .int .i64 ((Gt.mk k x y z)).b, .int .i64 ((Gt.mk k x y z)).c])) (by simp only [results, Tryz.results66]; simp [go_sem, k0', k1', k2', k3']) rfl ⟨⟨(Gt.mk k x y z), rfl, hgb⟩, ?_, ?_⟩
  · refine Hc1.out.below (C := w.heap.size) ?_ hB
    have := Below.refl w1.heap.size w1
    go_grown
  · refine own_under Ho1.out (C := w.heap.size) ?_ (Nat.le_refl _)
    have := Below.refl w1.heap.size w1
    go_grown
theorem ar_pos {k : Int} (h0 : 1 ≤ k) (h1 : k ≤ 12) : ar k = 1 ∨ ar k = 2 ∨ ar k = 3 := by
  unfold ar
  (repeat' split) <;> omega
theorem on_any (B n : Nat) (k : Int) (w : World) (hcur : CurAt w B) (hB : B < w.heap.size) (k0 : 1 ≤ k) (k1 : k ≤ 12) (h1 : 1 ≤ n) (h4 : n ≤ 4) (hn : ar k ≤ n) :
    Calls Tryz.prog 66 #[.pointer (some ⟨B, 0, none⟩), .int .i64 k, .int .i64 n] w fun e w' => (∃ g, e = .returned (.agg #[.int .i64 g.k, .int .i64 g.a, .int .i64 g.b, .int .i64 g.c]) ∧ GtBd g) ∧ CurAt w' B ∧ Own B w w' := by
  rcases ar_pos k0 k1 with h | h | h
  · exact on1 B n k w hcur hB k0 k1 h1 h4 h (by omega)
  · exact on2 B n k w hcur hB k0 k1 h1 h4 h (by omega)
  · exact on3 B n k w hcur hB k0 k1 h1 h4 h (by omega)
end Go.Proofs.YtckfklpgnneodaaGreat
namespace Go.Proofs.YtckfklpgnneodaaGreat
open Go.RowKit
def most9 : List Int := [0, 8, 11, 12, 12]
theorem most9_bd (j : Nat) (h1 : 1 ≤ j) (h4 : j ≤ 4) : 1 ≤ most9.getD j 0 ∧ most9.getD j 0 ≤ 12 := by
  rcases (show j = 1 ∨ j = 2 ∨ j = 3 ∨ j = 4 by omega) with rfl | rfl | rfl | rfl <;> decide
def kinds9 : List Int := [4, 7, 5, 8, 9, 9, 9, 9]
theorem list_new9 (w : World) : ListAt (w.alloc (.cells #[.int .i64 4, .int .i64 7, .int .i64 5, .int .i64 8, .int .i64 9, .int .i64 9, .int .i64 9, .int .i64 9] 3)) w.heap.size 8 (fun j => .int .i64 (kinds9.getD j 0)) := by
  refine zlist_at (heap_alloc_new w _) 8 _ fun j hj => ?_
  rcases (show j = 0 ∨ j = 1 ∨ j = 2 ∨ j = 3 ∨ j = 4 ∨ j = 5 ∨ j = 6 ∨ j = 7 by omega) with rfl | rfl | rfl | rfl | rfl | rfl | rfl | rfl <;> rfl
attribute [local irreducible] World.cell?
set_option maxRecDepth 100000 in
set_option maxHeartbeats 3200000 in
theorem gate_any (B n : Nat) (w : World) (hcur : CurAt w B) (hB : B < w.heap.size) (h1 : 1 ≤ n) (h4 : n ≤ 4) :
    Calls Tryz.prog 47 #[.pointer (some ⟨B, 0, none⟩), .int .i64 n] w fun e w' => (∃ g, e = .returned (.agg #[.int .i64 g.k, .int .i64 g.a, .int .i64 g.b, .int .i64 g.c]) ∧ GtBd g) ∧ CurAt w' B ∧ Own B w w' := by
  have Ha := Lib.hid (fun k w => sar k w)
  have HR := Lib.hid (alloc_blk (.cells #[.int .i64 0, .int .i64 8, .int .i64 11, .int .i64 12, .int .i64 12] 3) (heap_alloc_new w (.cells #[.int .i64 0, .int .i64 0, .int .i64 0, .int .i64 0] 44)))
  have hne : w.heap.size ≠ B := by omega
  have Hb0 := Lib.hid (show Below w.heap.size w ((w.alloc (.cells #[.int .i64 0, .int .i64 0, .int .i64 0, .int .i64 0] 44)).alloc (.cells #[.int .i64 0, .int .i64 8, .int .i64 11, .int .i64 12, .int .i64 12] 3)) by go_grown)
  have hrow : ((w.alloc (.cells #[.int .i64 0, .int .i64 0, .int .i64 0, .int .i64 0] 44)).alloc (.cells #[.int .i64 0, .int .i64 8, .int .i64 11, .int .i64 12, .int .i64 12] 3)).heap[w.heap.size + 1]? = some (.cells #[.int .i64 0, .int .i64 8, .int .i64 11, .int .i64 12, .int .i64 12] 3 (0, 0)) := by
    simpa using heap_alloc_new (w.alloc (.cells #[.int .i64 0, .int .i64 0, .int .i64 0, .int .i64 0] 44)) (.cells #[.int .i64 0, .int .i64 8, .int .i64 11, .int .i64 12, .int .i64 12] 3)
  obtain ⟨m, hm⟩ : ∃ m, m = most9.getD n 0 := ⟨_, rfl⟩
  have hmb := most9_bd n h1 h4
  rw [← hm] at hmb
  have cm := IRow.cell (l := most9) (j := n) (x := m) ⟨_, hrow, rfl⟩ (by rw [hm, List.getD_eq_getElem?_getD, List.getElem?_eq_getElem (show n < most9.length by simp [most9]; omega)]; rfl)
  have Hc0 := Lib.hid (hcur.below Hb0.out hB)
  have Ho0 := Lib.hid (show Own B w _ from own_of_below Hb0.out)
  clear hm hrow hcur
  go_enter Tryz.func47, Tryz.ntmps47
  go_wp2_with fail
  refine (below_any B m _ Hc0.out (by omega) (by omega)).mono ?_
  rintro e w1 ⟨⟨x, x0, x1, rfl⟩, hc1, ho1⟩
  have hs1 := ho1.size
  simp at hs1
  have Hc1 := Lib.hid hc1
  have HR1 := Lib.hid (own_blk ho1 hne HR.out)
  have Ho1 := Lib.hid (own_trans Ho0.out ho1)
  clear hc1 ho1 cm Hc0 HR
  go_wp2_with fail
  refine (once_any B 2 _ Hc1.out (by omega) (by omega)).mono ?_
  rintro e w2 ⟨⟨b, rfl⟩, hc2, ho2⟩
  have hs2 := ho2.size
  have Hc2 := Lib.hid hc2
  have HR2 := Lib.hid (own_blk ho2 hne HR1.out)
  have Ho2 := Lib.hid (own_trans Ho1.out ho2)
  clear hc2 ho2 Hc1 HR1
  cases b with
  | false =>
    have HcT := Hc2
    have HRT := HR2
    have HoT := Ho2
    clear Hc2 HR2 Ho2
    have kk0 : 1 ≤ 1 + x := by omega
    have kk1 : 1 + x ≤ 12 := by omega
    go_wp2_with fail
    generalize 1 + x = kk at *

    refine (Ha.out _ _).mono ?_
    rintro e w8 ⟨rfl, rfl⟩
    by_cases har : ar kk ≤ n
    · have hd : decide ((n : Int) < ar kk) = false := decide_eq_false (by omega)
      have hdn : ¬ n < ar kk := by omega
      go_wp2_with fail
      refine (on_any B n kk _ HcT.out (by omega) kk0 kk1 h1 h4 har).mono ?_
      rintro e w9 ⟨⟨g, rfl, hgb⟩, hc9, ho9⟩
      have hR9 := own_blk ho9 hne HRT.out
      have hs9 := ho9.size
      have HoF := Lib.hid (own_trans HoT.out ho9)
      have Hc9 := Lib.hid hc9
      obtain ⟨r0, r1, r2, r3⟩ := blk_cells hR9
      have fR := fun o => free_at hR9 o
      have hRl := lt_of_block hR9
      have HR9 := Lib.hid hR9
      clear hR9 hc9 ho9
      go_wp2_with fail
      obtain ⟨k0', k1', k2', k3'⟩ := blk_cells (set4_at (u0 := .int .i64 g.k) (u1 := .int .i64 g.a) (u2 := .int .i64 g.b) (u3 := .int .i64 g.c) HR9.out)
      refine bodyPost_ret (v := (.agg #[.int .i64 g.k, .int .i64 g.a, .int .i64 g.b, .int .i64 g.c])) (by simp only [results, Tryz.results47]; simp [go_sem, k0', k1', k2', k3']) rfl ⟨⟨g, rfl, hgb⟩, ?_, ?_⟩
      · refine Hc9.out.below (C := w.heap.size) ?_ hB
        have := Below.refl w9.heap.size w9
        go_grown
      · refine own_under HoF.out (C := w.heap.size) ?_ (Nat.le_refl _)
        have := Below.refl w9.heap.size w9
        go_grown
    · have hd : decide ((n : Int) < ar kk) = true := decide_eq_true (by omega)
      have hdn : n < ar kk := by omega
      go_wp2_with fail
      refine (on_any B n 4 _ HcT.out (by omega) (by decide) (by decide) h1 h4 (by have : ar 4 = 1 := rfl; omega)).mono ?_
      rintro e w9 ⟨⟨g, rfl, hgb⟩, hc9, ho9⟩
      have hR9 := own_blk ho9 hne HRT.out
      have hs9 := ho9.size
      have HoF := Lib.hid (own_trans HoT.out ho9)
      have Hc9 := Lib.hid hc9
      obtain ⟨r0, r1, r2, r3⟩ := blk_cells hR9
      have fR := fun o => free_at hR9 o
      have hRl := lt_of_block hR9
      have HR9 := Lib.hid hR9
      clear hR9 hc9 ho9
      go_wp2_with fail
      obtain ⟨k0', k1', k2', k3'⟩ := blk_cells (set4_at (u0 := .int .i64 g.k) (u1 := .int .i64 g.a) (u2 := .int .i64 g.b) (u3 := .int .i64 g.c) HR9.out)
      refine bodyPost_ret (v := (.agg #[.int .i64 g.k, .int .i64 g.a, .int .i64 g.b, .int .i64 g.c])) (by simp only [results, Tryz.results47]; simp [go_sem, k0', k1', k2', k3']) rfl ⟨⟨g, rfl, hgb⟩, ?_, ?_⟩
      · refine Hc9.out.below (C := w.heap.size) ?_ hB
        have := Below.refl w9.heap.size w9
        go_grown
      · refine own_under HoF.out (C := w.heap.size) ?_ (Nat.le_refl _)
        have := Below.refl w9.heap.size w9
        go_grown

  | true =>
    have HL := Lib.hid (list_new9 w2)
    have HA2 := Lib.hid (Hc2.out.own (own_alloc (own_refl w2.heap.size w2) (.cells #[.int .i64 4, .int .i64 7, .int .i64 5, .int .i64 8, .int .i64 9, .int .i64 9, .int .i64 9, .int .i64 9] 3)) (by omega))
    go_wp2_with fail
    refine (pickB B w2.heap.size 8 8 kinds9 _ HA2.out HL.out (by omega) (by omega) (by omega) rfl 1 12 (by decide)).mono ?_
    rintro e w3 ⟨⟨kk, kk0, kk1, rfl⟩, hc3, ho3⟩
    have hs3 := ho3.size
    simp at hs3
    have HcT := Lib.hid hc3
    have HRT := Lib.hid (own_blk ho3 hne (alloc_blk _ HR2.out))
    have HoT := Lib.hid (own_trans (own_alloc Ho2.out _) ho3)
    clear hc3 ho3 Hc2 HR2 Ho2
    go_wp2_with fail

    refine (Ha.out _ _).mono ?_
    rintro e w8 ⟨rfl, rfl⟩
    by_cases har : ar kk ≤ n
    · have hd : decide ((n : Int) < ar kk) = false := decide_eq_false (by omega)
      have hdn : ¬ n < ar kk := by omega
      go_wp2_with fail
      refine (on_any B n kk _ HcT.out (by omega) kk0 kk1 h1 h4 har).mono ?_
      rintro e w9 ⟨⟨g, rfl, hgb⟩, hc9, ho9⟩
      have hR9 := own_blk ho9 hne HRT.out
      have hs9 := ho9.size
      have HoF := Lib.hid (own_trans HoT.out ho9)
      have Hc9 := Lib.hid hc9
      obtain ⟨r0, r1, r2, r3⟩ := blk_cells hR9
      have fR := fun o => free_at hR9 o
      have hRl := lt_of_block hR9
      have HR9 := Lib.hid hR9
      clear hR9 hc9 ho9
      go_wp2_with fail
      obtain ⟨k0', k1', k2', k3'⟩ := blk_cells (set4_at (u0 := .int .i64 g.k) (u1 := .int .i64 g.a) (u2 := .int .i64 g.b) (u3 := .int .i64 g.c) HR9.out)
      refine bodyPost_ret (v := (.agg #[.int .i64 g.k, .int .i64 g.a, .int .i64 g.b, .int .i64 g.c])) (by simp only [results, Tryz.results47]; simp [go_sem, k0', k1', k2', k3']) rfl ⟨⟨g, rfl, hgb⟩, ?_, ?_⟩
      · refine Hc9.out.below (C := w.heap.size) ?_ hB
        have := Below.refl w9.heap.size w9
        go_grown
      · refine own_under HoF.out (C := w.heap.size) ?_ (Nat.le_refl _)
        have := Below.refl w9.heap.size w9
        go_grown
    · have hd : decide ((n : Int) < ar kk) = true := decide_eq_true (by omega)
      have hdn : n < ar kk := by omega
      go_wp2_with fail
      refine (on_any B n 4 _ HcT.out (by omega) (by decide) (by decide) h1 h4 (by have : ar 4 = 1 := rfl; omega)).mono ?_
      rintro e w9 ⟨⟨g, rfl, hgb⟩, hc9, ho9⟩
      have hR9 := own_blk ho9 hne HRT.out
      have hs9 := ho9.size
      have HoF := Lib.hid (own_trans HoT.out ho9)
      have Hc9 := Lib.hid hc9
      obtain ⟨r0, r1, r2, r3⟩ := blk_cells hR9
      have fR := fun o => free_at hR9 o
      have hRl := lt_of_block hR9
      have HR9 := Lib.hid hR9
      clear hR9 hc9 ho9
      go_wp2_with fail
      obtain ⟨k0', k1', k2', k3'⟩ := blk_cells (set4_at (u0 := .int .i64 g.k) (u1 := .int .i64 g.a) (u2 := .int .i64 g.b) (u3 := .int .i64 g.c) HR9.out)
      refine bodyPost_ret (v := (.agg #[.int .i64 g.k, .int .i64 g.a, .int .i64 g.b, .int .i64 g.c])) (by simp only [results, Tryz.results47]; simp [go_sem, k0', k1', k2', k3']) rfl ⟨⟨g, rfl, hgb⟩, ?_, ?_⟩
      · refine Hc9.out.below (C := w.heap.size) ?_ hB
        have := Below.refl w9.heap.size w9
        go_grown
      · refine own_under HoF.out (C := w.heap.size) ?_ (Nat.le_refl _)
        have := Below.refl w9.heap.size w9
        go_grown
end Go.Proofs.YtckfklpgnneodaaGreat
namespace Go.Proofs.YtckfklpgnneodaaGreat
open Go.RowKit
/-- InverseGate, of kinds and of gates. -/
def invK (k : Int) : Int := if k = 5 then 6 else if k = 6 then 5 else if k = 7 then 8 else if k = 8 then 7 else k
attribute [local irreducible] World.cell?
set_option maxRecDepth 100000 in
set_option maxHeartbeats 1600000 in
theorem sacts (g : Gt) (q : Int) (w : World) :
    Calls Tryz.prog 72 #[(.agg #[.int .i64 g.k, .int .i64 g.a, .int .i64 g.b, .int .i64 g.c]), .int .i64 q] w fun e w' => e = .returned (.bool (decide (q ∈ gqs g))) ∧ Below w.heap.size w w' := by
  have Hb0 := Lib.hid (show Below w.heap.size w (w.alloc (.cells #[.int .i64 g.k, .int .i64 g.a, .int .i64 g.b, .int .i64 g.c] 44)) by go_grown)
  have H1 := Lib.hid (fun W => sgqs g W)
  have hL := gqs_len g
  have h3 := ar_le g.k
  have H2 := Lib.hid (fun P v W (h : intE.Sl W P v (gqs g)) => shas P v (gqs g) q W h (by omega))
  clear hL h3
  generalize decide (q ∈ gqs g) = T at *
  generalize gqs g = l at *
  go_enter Tryz.func72, Tryz.ntmps72
  go_wp2_with fail
  refine (H1.out _).mono ?_
  rintro e w1 ⟨v, rfl, hd, hb1⟩
  have Hb1 := Lib.hid (below_nx Hb0.out hb1)
  have H3 := Lib.hid (H2.out _ _ _ hd)
  clear hb1 hd
  go_wp2_with fail
  refine (H3.out).mono ?_
  rintro e w2 ⟨rfl, rfl⟩
  go_wp2_with fail
  go_ret
  exact ⟨rfl, Hb1.out⟩
end Go.Proofs.YtckfklpgnneodaaGreat
namespace Go.Proofs.YtckfklpgnneodaaGreat
open Go.RowKit
/-- What gateKindOf answers. -/
def kV (k : Int) : Value :=
  if 1 ≤ k ∧ k ≤ 8 then .iface 101 (.agg #[.int .i64 (invK k), .bool (decide (k ≤ 6))])
  else if 9 ≤ k ∧ k ≤ 11 then .iface 103 (.agg #[])
  else if k = 12 then .iface 104 (.agg #[]) else .nilIface
theorem mkK1 (x : Value) (w : World) : (Instr.makeInterface 101 x).run Tryz.prog w = .ok (.iface 101 x) w := run_makeInterface w 101 x (by kernel_rfl)
theorem mkK2 (x : Value) (w : World) : (Instr.makeInterface 103 x).run Tryz.prog w = .ok (.iface 103 x) w := run_makeInterface w 103 x (by kernel_rfl)
theorem mkK3 (x : Value) (w : World) : (Instr.makeInterface 104 x).run Tryz.prog w = .ok (.iface 104 x) w := run_makeInterface w 104 x (by kernel_rfl)
theorem as11 (v : Value) (w : World) : (Instr.typeAssert (.iface 101 v) 98 101 true).run Tryz.prog w = .ok (.tuple #[v, .bool true]) w := by kernel_rfl
theorem as21 (v : Value) (w : World) : (Instr.typeAssert (.iface 103 v) 98 101 true).run Tryz.prog w = .ok (.tuple #[.agg #[.int .i64 0, .bool false], .bool false]) w := by kernel_rfl
theorem as31 (v : Value) (w : World) : (Instr.typeAssert (.iface 104 v) 98 101 true).run Tryz.prog w = .ok (.tuple #[.agg #[.int .i64 0, .bool false], .bool false]) w := by kernel_rfl
theorem as01 (w : World) : (Instr.typeAssert .nilIface 98 101 true).run Tryz.prog w = .ok (.tuple #[.agg #[.int .i64 0, .bool false], .bool false]) w := by kernel_rfl
theorem as22 (v : Value) (w : World) : (Instr.typeAssert (.iface 103 v) 98 103 true).run Tryz.prog w = .ok (.tuple #[v, .bool true]) w := by kernel_rfl
theorem as32 (v : Value) (w : World) : (Instr.typeAssert (.iface 104 v) 98 103 true).run Tryz.prog w = .ok (.tuple #[.agg #[], .bool false]) w := by kernel_rfl
theorem as02 (w : World) : (Instr.typeAssert .nilIface 98 103 true).run Tryz.prog w = .ok (.tuple #[.agg #[], .bool false]) w := by kernel_rfl
theorem as33 (v : Value) (w : World) : (Instr.typeAssert (.iface 104 v) 98 104 true).run Tryz.prog w = .ok (.tuple #[v, .bool true]) w := by kernel_rfl
theorem as03 (w : World) : (Instr.typeAssert .nilIface 98 104 true).run Tryz.prog w = .ok (.tuple #[.agg #[], .bool false]) w := by kernel_rfl
attribute [local irreducible] World.cell?
set_option maxRecDepth 100000 in
set_option maxHeartbeats 3200000 in
theorem ikind (k : Int) (w : World) :
    Calls Tryz.prog 67 #[.int .i64 k] w fun e w' => e = .returned (kV k) ∧ w = w' := by
  have m1 := mkK1
  have m2 := mkK2
  have m3 := mkK3
  by_cases h : 1 ≤ k ∧ k ≤ 12
  · rcases (show k = 1 ∨ k = 2 ∨ k = 3 ∨ k = 4 ∨ k = 5 ∨ k = 6 ∨ k = 7 ∨ k = 8 ∨ k = 9 ∨ k = 10 ∨ k = 11 ∨ k = 12 by omega) with rfl | rfl | rfl | rfl | rfl | rfl | rfl | rfl | rfl | rfl | rfl | rfl
    all_goals clear h
    all_goals go_enter Tryz.func67, Tryz.ntmps67
    all_goals go_wp2_with fail
    all_goals go_ret
    all_goals exact ⟨rfl, rfl⟩
  · have e : kV k = .nilIface := by unfold kV; rw [if_neg (by omega), if_neg (by omega), if_neg (by omega)]
    rw [e]
    have e1 : (k == 1) = false := by simp; omega
    have e2 : (k == 2) = false := by simp; omega
    have e3 : (k == 3) = false := by simp; omega
    have e4 : (k == 4) = false := by simp; omega
    have e5 : (k == 5) = false := by simp; omega
    have e6 : (k == 6) = false := by simp; omega
    have e7 : (k == 7) = false := by simp; omega
    have e8 : (k == 8) = false := by simp; omega
    have e9 : (k == 9) = false := by simp; omega
    have e10 : (k == 10) = false := by simp; omega
    have e11 : (k == 11) = false := by simp; omega
    have e12 : (k == 12) = false := by simp; omega
    clear h e
    go_enter Tryz.func67, Tryz.ntmps67
    go_wp2_with fail
    go_ret
    exact ⟨rfl, rfl⟩
/-- The four forms of a kind. -/
theorem kV_one {k : Int} (h : 1 ≤ k ∧ k ≤ 8) : kV k = .iface 101 (.agg #[.int .i64 (invK k), .bool (decide (k ≤ 6))]) := if_pos h
theorem kV_two {k : Int} (h : 9 ≤ k ∧ k ≤ 11) : kV k = .iface 103 (.agg #[]) := by unfold kV; rw [if_neg (by omega), if_pos h]
theorem kV_no {k : Int} (h : ¬ (1 ≤ k ∧ k ≤ 12)) : kV k = .nilIface := by unfold kV; rw [if_neg (by omega), if_neg (by omega), if_neg (by omega)]
theorem kind_cases (k : Int) : (1 ≤ k ∧ k ≤ 8) ∨ (9 ≤ k ∧ k ≤ 11) ∨ k = 12 ∨ ¬ (1 ≤ k ∧ k ≤ 12) := by omega
set_option maxRecDepth 100000 in
set_option maxHeartbeats 1600000 in
theorem iar0 (k : Int) (w : World) :
    Calls Tryz.prog 49 #[.int .i64 k] w fun e w' => e = .returned (.int .i64 (ar k)) ∧ w = w' := by
  have Hk := Lib.hid (fun w => ikind k w)
  rcases kind_cases k with h | h | rfl | h
  · rw [kV_one h] at Hk
    rw [show ar k = 1 from if_pos h]
    have h1 := as11
    clear h
    go_enter Tryz.func49, Tryz.ntmps49
    go_wp2_with fail
    refine (Hk.out _).mono ?_
    rintro e w1 ⟨rfl, rfl⟩
    go_wp2_with fail
    go_ret
    exact ⟨rfl, rfl⟩
  · rw [kV_two h] at Hk
    rw [show ar k = 2 by unfold ar; rw [if_neg (by omega), if_pos h]]
    have h1 := as21
    have h2 := as22
    clear h
    go_enter Tryz.func49, Tryz.ntmps49
    go_wp2_with fail
    refine (Hk.out _).mono ?_
    rintro e w1 ⟨rfl, rfl⟩
    go_wp2_with fail
    go_ret
    exact ⟨rfl, rfl⟩
  · have Hk' : Hid (∀ w, Calls Tryz.prog 67 #[.int .i64 12] w fun e w' => e = .returned (.iface 104 (.agg #[])) ∧ w = w') := Hk
    rw [show ar 12 = 3 from rfl]
    clear Hk
    have h1 := as31
    have h2 := as32
    have h3 := as33
    go_enter Tryz.func49, Tryz.ntmps49
    go_wp2_with fail
    refine (Hk'.out _).mono ?_
    rintro e w1 ⟨rfl, rfl⟩
    go_wp2_with fail
    go_ret
    exact ⟨rfl, rfl⟩
  · rw [kV_no h] at Hk
    rw [show ar k = 0 by unfold ar; rw [if_neg (by omega), if_neg (by omega), if_neg (by omega)]]
    have h1 := as01
    have h2 := as02
    have h3 := as03
    clear h
    go_enter Tryz.func49, Tryz.ntmps49
    go_wp2_with fail
    refine (Hk.out _).mono ?_
    rintro e w1 ⟨rfl, rfl⟩
    go_wp2_with fail
    go_ret
    exact ⟨rfl, rfl⟩
end Go.Proofs.YtckfklpgnneodaaGreat
namespace Go.Proofs.YtckfklpgnneodaaGreat
open Go.RowKit
attribute [local irreducible] World.cell?
set_option maxRecDepth 100000 in
set_option maxHeartbeats 1600000 in
theorem iindexI (g cap : Nat) (l : List Int) (x : Int) (w : World) (h : AR w g l) (hm : l.length ≤ 1048576) :
    Calls Tryz.prog 84 #[.slice (some ⟨g, 0, none⟩) l.length cap, .int .i64 x] w fun e w' => (∃ r : Int, e = .returned (.int .i64 r) ∧ (x ∈ l ↔ 0 ≤ r)) ∧ w = w' := by
  have H := Lib.hid h
  clear h
  go_enter Tryz.func84, Tryz.ntmps84
  go_wp2_with fail
  go_loopw [8] (fun i wr => ∃ j : Nat, j ≤ l.length ∧ i = .int .i64 j ∧ Hid (x ∉ l.take j) ∧ w = wr) (fun i _ => l.length - (intOf i).toNat)
  case atStart => exact ⟨0, Nat.zero_le _, rfl, Lib.hid (by simp), rfl⟩
  case round =>
    obtain ⟨j, hj, rfl, Hn, rfl⟩ := hrel
    by_cases hlt : j < l.length
    · obtain ⟨y, hy⟩ : ∃ y, l[j]? = some y := ⟨l[j], List.getElem?_eq_getElem hlt⟩
      have c0 := H.out.cell hy
      have Hy := Lib.hid hy
      clear hy
      by_cases hxy : x = y
      · have he : (x == y) = true := by simpa using hxy
        have hin : x ∈ l := hxy ▸ List.mem_of_getElem? Hy.out
        have Hin := Lib.hid hin
        clear hin hxy
        go_wp2_with fail
        go_ret
        exact ⟨⟨j, rfl, fun _ => by omega, fun _ => Hin.out⟩, rfl⟩
      · have he : (x == y) = false := by simpa using hxy
        have Hn2 := Lib.hid (show x ∉ l.take (j + 1) by
          rw [List.take_add_one, Hy.out]; intro hc
          rcases List.mem_append.1 hc with hc | hc
          · exact Hn.out hc
          · exact hxy (by simpa using hc))
        clear hxy
        go_wp2_with fail
        go_roundw
        case rel => exact ⟨j + 1, by omega, by go_num, Hn2, trivial⟩
        case measure => simp [intOf]; omega
    · obtain rfl : j = l.length := by omega
      have hn := Hn.out
      rw [List.take_length] at hn
      have Hn2 := Lib.hid hn
      clear hn
      go_wp2_with fail
      go_ret
      exact ⟨⟨-1, rfl, fun hc => absurd hc Hn2.out, fun hc => absurd hc (by decide)⟩, rfl⟩
set_option maxRecDepth 100000 in
set_option maxHeartbeats 800000 in
theorem icontI (g cap : Nat) (l : List Int) (x : Int) (w : World) (h : AR w g l) (hm : l.length ≤ 1048576) :
    Calls Tryz.prog 68 #[.slice (some ⟨g, 0, none⟩) l.length cap, .int .i64 x] w fun e w' => e = .returned (.bool (decide (x ∈ l))) ∧ w = w' := by
  have H := Lib.hid (iindexI g cap l x w h hm)
  clear h
  obtain ⟨T, hT⟩ : ∃ T, T = decide (x ∈ l) := ⟨_, rfl⟩
  rw [← hT]
  have HT := Lib.hid hT
  clear hT
  go_enter Tryz.func68, Tryz.ntmps68
  go_wp2_with fail
  refine H.out.mono ?_
  rintro e w1 ⟨⟨r, rfl, hr⟩, rfl⟩
  by_cases h0 : 0 ≤ r
  · obtain rfl : T = true := HT.out.trans (decide_eq_true (hr.2 h0))
    clear hr
    go_wp2_with fail
    go_ret
    exact ⟨by first | rfl | simp [h0], rfl⟩
  · obtain rfl : T = false := HT.out.trans (decide_eq_false (fun hc => h0 (hr.1 hc)))
    clear hr
    go_wp2_with fail
    go_ret
    exact ⟨by first | rfl | simp [h0], rfl⟩
theorem AR.take {w : World} {g : Nat} {l : List Int} (h : AR w g l) (j : Nat) : AR w g (l.take j) := by
  obtain ⟨cs, ty, h1, h2⟩ := h
  refine ⟨cs, ty, h1, ?_⟩
  rw [List.map_take, ← h2, List.take_take, List.length_take]
set_option maxRecDepth 100000 in
set_option maxHeartbeats 3200000 in
theorem idist (g cap : Nat) (l : List Int) (n : Int) (w : World) (h : AR w g l) (hc : l.length ≤ cap) (hm : l.length ≤ 1048576) :
    Calls Tryz.prog 50 #[.slice (some ⟨g, 0, none⟩) l.length cap, .int .i64 n] w fun e w' => e = .returned (.bool (dq l n)) ∧ w = w' := by
  have HC := Lib.hid (fun j x => icontI g cap (l.take j) x w (h.take j) (by rw [List.length_take]; omega))
  have H := Lib.hid h
  clear h
  obtain ⟨T, hT⟩ : ∃ T, T = dq l n := ⟨_, rfl⟩
  rw [← hT]
  have HT := Lib.hid hT
  clear hT
  go_enter Tryz.func50, Tryz.ntmps50
  go_wp2_with fail
  go_loopw [9] (fun i wr => ∃ j : Nat, j ≤ l.length ∧ i = .int .i64 j ∧ Hid (∀ m, m < j → dqOk l n m = true) ∧ w = wr) (fun i _ => l.length - (intOf i).toNat)
  case atStart => exact ⟨0, Nat.zero_le _, rfl, Lib.hid (fun m hm => absurd hm (by omega)), rfl⟩
  case round =>
    obtain ⟨j, hj, rfl, Hn, rfl⟩ := hrel
    by_cases hlt : j < l.length
    · obtain ⟨y, hy⟩ : ∃ y, l[j]? = some y := ⟨l[j], List.getElem?_eq_getElem hlt⟩
      have c0 := H.out.cell hy
      have hD : l.getD j 0 = y := by rw [List.getD_eq_getElem?_getD, hy]; rfl
      have HD := Lib.hid (show dqOk l n j = (decide (0 ≤ y ∧ y < n) && !decide (y ∈ l.take j)) by unfold dqOk; rw [hD])
      have Hc := Lib.hid (HC.out j y)
      rw [show (l.take j).length = j by rw [List.length_take]; omega] at Hc
      have hbad : dqOk l n j = false → T = false := fun hb => HT.out.trans (by
        unfold dq
        rw [Bool.eq_false_iff]
        intro hall
        rw [List.all_eq_true] at hall
        rw [hall j (List.mem_range.2 hlt)] at hb
        cases hb)
      have Hbad := Lib.hid hbad
      clear hy hD hbad
      by_cases h0 : y < 0
      · obtain rfl : T = false := Hbad.out (by rw [HD.out, decide_eq_false (show ¬ (0 ≤ y ∧ y < n) by omega)]; rfl)
        go_wp2_with fail
        go_ret
        exact ⟨rfl, rfl⟩
      · by_cases h1 : y < n
        · have h1' : ¬ n ≤ y := by omega
          by_cases hin : y ∈ l.take j
          · obtain rfl : T = false := Hbad.out (by rw [HD.out, decide_eq_true hin]; simp)
            rw [decide_eq_true hin] at Hc
            clear hin
            go_wp2_with (first | (go_at_call 68; refine (Hc.out).mono ?_; rintro e w1 ⟨rfl, rfl⟩))
            go_ret
            exact ⟨rfl, rfl⟩
          · have Hn2 := Lib.hid (show ∀ m, m < j + 1 → dqOk l n m = true from fun m hm => by
              by_cases he : m = j
              · subst he; rw [HD.out, decide_eq_true (show 0 ≤ y ∧ y < n by omega), decide_eq_false hin]; rfl
              · exact Hn.out m (by omega))
            rw [decide_eq_false hin] at Hc
            clear hin
            go_wp2_with (first | (go_at_call 68; refine (Hc.out).mono ?_; rintro e w1 ⟨rfl, rfl⟩))
            go_roundw
            case rel => exact ⟨j + 1, by omega, by go_num, Hn2, trivial⟩
            case measure => simp [intOf]; omega
        · obtain rfl : T = false := Hbad.out (by rw [HD.out, decide_eq_false (show ¬ (0 ≤ y ∧ y < n) by omega)]; rfl)
          have h1' : n ≤ y := by omega
          go_wp2_with fail
          go_ret
          exact ⟨rfl, rfl⟩
    · obtain rfl : j = l.length := by omega
      obtain rfl : T = true := HT.out.trans (by
        unfold dq
        rw [List.all_eq_true]
        exact fun m hm => Hn.out m (List.mem_range.1 hm))
      go_wp2_with fail
      go_ret
      exact ⟨rfl, rfl⟩
end Go.Proofs.YtckfklpgnneodaaGreat
namespace Go.Proofs.YtckfklpgnneodaaGreat
open Go.RowKit
/-- The box of a gate lies at B. -/
def GB (w : World) (B : Nat) (g : Gt) (w' : World) : Prop := w'.cell? ⟨B, 0, none⟩ = some (.int .i64 g.k) ∧ w'.cell? ⟨B, 1, none⟩ = some (.int .i64 g.a) ∧ w'.cell? ⟨B, 2, none⟩ = some (.int .i64 g.b) ∧ w'.cell? ⟨B, 3, none⟩ = some (.int .i64 g.c) ∧ B < w'.heap.size ∧ Below w.heap.size w w'
theorem GB.drew {w w1 : World} {B : Nat} {g : Gt} (h : GB w B g w1) : GB w B g w1.drew :=
  let ⟨c0, c1, c2, c3, z0, l⟩ := h; ⟨c0, c1, c2, c3, z0, l.drew⟩
theorem GB.alloc {w w1 : World} {B : Nat} {g : Gt} {o : Obj} (h : GB w B g w1) : GB w B g (w1.alloc o) :=
  let ⟨c0, c1, c2, c3, z0, l⟩ := h
  have e : ∀ k, (w1.alloc o).cell? ⟨B, k, none⟩ = w1.cell? ⟨B, k, none⟩ := fun k => (Below.refl w1.heap.size w1).alloc (Nat.le_refl _) o |>.cell (by exact z0)
  ⟨(e 0).trans c0, (e 1).trans c1, (e 2).trans c2, (e 3).trans c3, by simp; omega, l.alloc l.size o⟩
attribute [local irreducible] World.cell?
set_option maxRecDepth 100000 in
set_option maxHeartbeats 3200000 in
theorem igqs0 (g : Gt) (w : World) : Calls Tryz.prog 36 #[(.agg #[.int .i64 g.k, .int .i64 g.a, .int .i64 g.b, .int .i64 g.c])] w fun e w' => e = .returned (.slice (some ⟨w.heap.size + 1, 0, none⟩) (ar g.k) 3) ∧ intE.Row w' (w.heap.size + 1) (gqs g) ∧ Below w.heap.size w w' := by
  have Ha := Lib.hid (fun w => iar0 g.k w)
  have HX := Lib.hid (heap_alloc_new w (.cells #[.int .i64 g.k, .int .i64 g.a, .int .i64 g.b, .int .i64 g.c] 44))
  have hb0 : Below w.heap.size w (w.alloc (.cells #[.int .i64 g.k, .int .i64 g.a, .int .i64 g.b, .int .i64 g.c] 44)) := by go_grown
  obtain ⟨c0, c1, c2, c3⟩ := blk_cells HX.out
  have hS : GB w w.heap.size g (w.alloc (.cells #[.int .i64 g.k, .int .i64 g.a, .int .i64 g.b, .int .i64 g.c] 44)) := ⟨c0, c1, c2, c3, by simp, hb0⟩
  have h3 := ar_le g.k
  have hR : intE.Row (((w.alloc (.cells #[.int .i64 g.k, .int .i64 g.a, .int .i64 g.b, .int .i64 g.c] 44)).alloc (.cells #[.int .i64 g.a, .int .i64 g.b, .int .i64 g.c] 3)).drew) (w.heap.size + 1) (gqs g) := by
    have h1 : ((w.alloc (.cells #[.int .i64 g.k, .int .i64 g.a, .int .i64 g.b, .int .i64 g.c] 44)).alloc (.cells #[.int .i64 g.a, .int .i64 g.b, .int .i64 g.c] 3)).drew.heap[w.heap.size + 1]? = some (.cells #[.int .i64 g.a, .int .i64 g.b, .int .i64 g.c] 3 (0, 0)) := by
      have h := heap_alloc_new (w.alloc (.cells #[.int .i64 g.k, .int .i64 g.a, .int .i64 g.b, .int .i64 g.c] 44)) (.cells #[.int .i64 g.a, .int .i64 g.b, .int .i64 g.c] 3)
      rw [show (w.alloc (.cells #[.int .i64 g.k, .int .i64 g.a, .int .i64 g.b, .int .i64 g.c] 44)).heap.size = w.heap.size + 1 by simp] at h
      exact h
    exact Enc.Row.take (E := intE) (l := [g.a, g.b, g.c]) ⟨#[.int .i64 g.a, .int .i64 g.b, .int .i64 g.c], h1, rfl⟩ (ar g.k)
  have hV := Lib.hid hR
  have hB := Lib.hid (show Below w.heap.size w (((w.alloc (.cells #[.int .i64 g.k, .int .i64 g.a, .int .i64 g.b, .int .i64 g.c] 44)).alloc (.cells #[.int .i64 g.a, .int .i64 g.b, .int .i64 g.c] 3)).drew) by go_grown)
  clear hR
  generalize ar g.k = t at *
  have ht : (t : Int) ≤ 3 := by omega
  clear hb0
  go_enter Tryz.func36, Tryz.ntmps36
  go_upto_region 1 with fail
  go_region_held3 (fun w' => w'.cell? ⟨w.heap.size, 0, none⟩ = some (.int .i64 g.k) ∧ w'.cell? ⟨w.heap.size, 1, none⟩ = some (.int .i64 g.a) ∧ w'.cell? ⟨w.heap.size, 2, none⟩ = some (.int .i64 g.b) ∧ w'.cell? ⟨w.heap.size, 3, none⟩ = some (.int .i64 g.c) ∧ w.heap.size < w'.heap.size ∧ Below w.heap.size w w') (first | (show GB _ _ _ _; (with_reducible exact hS.drew)) | (show GB _ _ _ _; (with_reducible exact (GB.alloc hS).drew)) | (show GB _ _ _ _; exact (GB.alloc hS).drew) | (show GB _ _ _ _; (with_reducible refine GB.alloc ?_); first | assumption | exact ⟨by assumption, by assumption, by assumption, by assumption, by assumption, by assumption⟩))
    (first | (go_at_call 49; refine (Ha.out _).mono ?_; rintro e wR ⟨rfl, rfl⟩))
  all_goals go_wp2_with fail
  all_goals go_ret
  all_goals exact ⟨rfl, hV.out, hB.out⟩
set_option maxRecDepth 100000 in
set_option maxHeartbeats 3200000 in
theorem igqs1 (g : Gt) (w : World) : Calls Tryz.prog 36 #[(.agg #[.int .i64 g.k, .int .i64 g.a, .int .i64 g.b, .int .i64 g.c])] w fun e w' => ∃ b cap, e = .returned (.slice (some ⟨b, 0, none⟩) (gqs g).length cap) ∧ AR w' b (gqs g) ∧ Below w.heap.size w w' := by
  rw [gqs_len]
  exact (igqs0 g w).mono fun e w' h => ⟨_, _, h.1, AR.of_row h.2.1, h.2.2⟩
/-- ActsOn. -/
theorem gqs_row (g : Gt) : (gqs g).length ≤ 3 := by rw [gqs_len]; exact ar_le _
set_option maxRecDepth 100000 in
set_option maxHeartbeats 1600000 in
theorem iacts (g : Gt) (q : Int) (w : World) (_ : -9223372036854775808 ≤ q) (_ : q ≤ 9223372036854775807) : Calls Tryz.prog 53 #[(.agg #[.int .i64 g.k, .int .i64 g.a, .int .i64 g.b, .int .i64 g.c]), .int .i64 q] w fun e w' => e = .returned (.bool (decide (q ∈ gqs g))) ∧ Below w.heap.size w w' := by
  have Hq := Lib.hid (fun w => igqs1 g w)
  have hl := gqs_row g
  generalize gqs g = l at *
  have HC := Lib.hid (fun b cap w h => icontI b cap l q w h (by omega))
  have hb0 : Below w.heap.size w (w.alloc (.cells #[.int .i64 g.k, .int .i64 g.a, .int .i64 g.b, .int .i64 g.c] 44)) := by go_grown
  have Hb0 := Lib.hid hb0
  clear hl hb0
  generalize decide (q ∈ l) = T at *
  go_enter Tryz.func53, Tryz.ntmps53
  go_wp2_with fail
  refine (Hq.out _).mono ?_
  rintro e w1 ⟨b, cap, rfl, hr, hb1⟩
  have Hr := Lib.hid hr
  have Hb1 := Lib.hid (below_nx Hb0.out hb1)
  clear hr hb1
  go_wp2_with fail
  refine (HC.out _ _ _ Hr.out).mono ?_
  rintro e w2 ⟨rfl, rfl⟩
  go_wp2_with fail
  go_ret
  exact ⟨rfl, Hb1.out⟩
end Go.Proofs.YtckfklpgnneodaaGreat
