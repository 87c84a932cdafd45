/- BaseB03: several of our texts in one: GtD GtP GtS GtKa MtR. -/
import Derived.Test.YtmpafidkpangeaaGreatGtB
import Derived.Deep.AppendLies
import Derived.Deep.RegionLaw
import Derived.Test.YtmpafidkpangeaaGreatBaseB20
import Derived.Test.YtmpafidkpangeaaGreatBaseB25
import Derived.Test.YtmpafidkpangeaaGreatDsM
import Derived.Test.YtmpafidkpangeaaGreatBaseB06
namespace Go.Proofs.YtmpafidkpangeaaGreat
open Go.RowKit
theorem own_under {B C : Nat} {a b c : World} (h : Own B a b) (k : Below C b c) (hC : a.heap.size ≤ C) : Own B a c :=
  ⟨k.os.trans h.os, k.tape.trans h.tape, k.output.trans h.output, Nat.le_trans h.size k.size, fun i hi hn => (k.block i (Nat.lt_of_lt_of_le hi hC)).trans (h.block i hi hn)⟩
theorem set1_blk {g b off : Nat} {W : World} {o : Obj} {u : Value} (hn : b ≠ g) (h : W.heap[b]? = some o) : (W.setCell ⟨g, off, none⟩ u).heap[b]? = some o := (Below.heap_setCell _ _ _ _ (by show b ≠ g; exact hn)).trans h
/-- A gate that was drawn: each of its numbers is small. -/
def GtBd (g : Gt) : Prop := (1 ≤ g.k ∧ g.k ≤ 12) ∧ (0 ≤ g.a ∧ g.a ≤ 3) ∧ (0 ≤ g.b ∧ g.b ≤ 3) ∧ 0 ≤ g.c ∧ g.c ≤ 3
attribute [local irreducible] World.cell?
set_option maxRecDepth 100000 in
set_option maxHeartbeats 3200000 in
theorem on1 (B n : Nat) (k : Int) (w : World) (hcur : CurAt w B) (hB : B < w.heap.size) (k0 : 1 ≤ k) (k1 : k ≤ 12) (h1 : 1 ≤ n) (h4 : n ≤ 4) (ht : ar k = 1) (_ : 1 ≤ n) :
    Calls Tryz.prog 157 #[.pointer (some ⟨B, 0, none⟩), .int .i64 k, .int .i64 n] w fun e w' => (∃ g, e = .returned (.agg #[.int .i64 g.k, .int .i64 g.a, .int .i64 g.b, .int .i64 g.c]) ∧ GtBd g) ∧ CurAt w' B ∧ Own B w w' := by
  have Ha := Lib.hid (fun w => sar k w)
  rw [ht] at Ha
  clear ht
  have HR := Lib.hid (heap_alloc_new w (.cells #[.int .i64 0, .int .i64 0, .int .i64 0, .int .i64 0] 35))
  have Hc0 := Lib.hid (hcur.own (own_alloc (own_refl w.heap.size w) (.cells #[.int .i64 0, .int .i64 0, .int .i64 0, .int .i64 0] 35)) hB)
  have Hz := Lib.hid (show B < (w.alloc (.cells #[.int .i64 0, .int .i64 0, .int .i64 0, .int .i64 0] 35)).heap.size by simp; omega)
  go_enter Tryz.func157, Tryz.ntmps157
  go_wp2_with fail
  refine (perm_any B n _ Hc0.out Hz.out h1 h4).mono ?_
  rintro e w1 ⟨⟨v, l, rfl, hl, hbd, hd⟩, hc1, ho1⟩
  have hne : w.heap.size ≠ B := by omega
  have hR1 := own_blk ho1 hne HR.out
  have hs1 := ho1.size
  have Hc1 := Lib.hid hc1
  have Ho1 := Lib.hid (own_trans (own_alloc (own_refl B w) (.cells #[.int .i64 0, .int .i64 0, .int .i64 0, .int .i64 0] 35)) ho1)
  obtain ⟨a, cap, rfl, hcap, hr⟩ := hd
  obtain ⟨g, rfl, hg, hrow⟩ := hr (by omega)
  have hgl := hrow.lt
  obtain ⟨x, hx⟩ : ∃ x, l[0]? = some x := ⟨l[0], List.getElem?_eq_getElem (by omega)⟩
  have cx := IRow.cell hrow hx
  have bx := hbd x (List.mem_of_getElem? hx)
  obtain ⟨r0, r1, r2, r3⟩ := blk_cells hR1
  have fR := fun o => free_at hR1 o
  have hRl := lt_of_block hR1
  simp at hs1 hg
  have HR1 := Lib.hid hR1
  clear hrow hr hx hbd hc1 ho1 hR1 Hc0 Hz HR
  go_wp2_with fail
  refine (Ha.out _).mono ?_
  rintro e w2 ⟨rfl, rfl⟩
  go_wp2_with fail
  refine (Ha.out _).mono ?_
  rintro e w3 ⟨rfl, rfl⟩
  go_wp2_with fail
  obtain ⟨k0', k1', k2', k3'⟩ := blk_cells (alloc_blk (.cells #[.int .i64 ((Gt.mk k x 0 0)).k, .int .i64 ((Gt.mk k x 0 0)).a, .int .i64 ((Gt.mk k x 0 0)).b, .int .i64 ((Gt.mk k x 0 0)).c] 35) (set4_at (u0 := .int .i64 k) (u1 := .int .i64 x) (u2 := .int .i64 0) (u3 := .int .i64 0) HR1.out))
  have hgb : GtBd (Gt.mk k x 0 0) := by
    simp only [GtBd]
    omega
  refine bodyPost_ret (v := (.agg #[.int .i64 ((Gt.mk k x 0 0)).k, .int .i64 ((Gt.mk k x 0 0)).a, .int .i64 ((Gt.mk k x 0 0)).b, .int .i64 ((Gt.mk k x 0 0)).c])) (by simp only [results, Tryz.results157]; simp [go_sem, k0', k1', k2', k3']) rfl ⟨⟨(Gt.mk k x 0 0), rfl, hgb⟩, ?_, ?_⟩
  · refine Hc1.out.below (C := w.heap.size) ?_ hB
    have := Below.refl w1.heap.size w1
    go_grown
  · refine own_under Ho1.out (C := w.heap.size) ?_ (Nat.le_refl _)
    have := Below.refl w1.heap.size w1
    go_grown
set_option maxRecDepth 100000 in
set_option maxHeartbeats 3200000 in
theorem on2 (B n : Nat) (k : Int) (w : World) (hcur : CurAt w B) (hB : B < w.heap.size) (k0 : 1 ≤ k) (k1 : k ≤ 12) (h1 : 1 ≤ n) (h4 : n ≤ 4) (ht : ar k = 2) (hn : 2 ≤ n) :
    Calls Tryz.prog 157 #[.pointer (some ⟨B, 0, none⟩), .int .i64 k, .int .i64 n] w fun e w' => (∃ g, e = .returned (.agg #[.int .i64 g.k, .int .i64 g.a, .int .i64 g.b, .int .i64 g.c]) ∧ GtBd g) ∧ CurAt w' B ∧ Own B w w' := by
  have Ha := Lib.hid (fun w => sar k w)
  rw [ht] at Ha
  clear ht
  have HR := Lib.hid (heap_alloc_new w (.cells #[.int .i64 0, .int .i64 0, .int .i64 0, .int .i64 0] 35))
  have Hc0 := Lib.hid (hcur.own (own_alloc (own_refl w.heap.size w) (.cells #[.int .i64 0, .int .i64 0, .int .i64 0, .int .i64 0] 35)) hB)
  have Hz := Lib.hid (show B < (w.alloc (.cells #[.int .i64 0, .int .i64 0, .int .i64 0, .int .i64 0] 35)).heap.size by simp; omega)
  go_enter Tryz.func157, Tryz.ntmps157
  go_wp2_with fail
  refine (perm_any B n _ Hc0.out Hz.out h1 h4).mono ?_
  rintro e w1 ⟨⟨v, l, rfl, hl, hbd, hd⟩, hc1, ho1⟩
  have hne : w.heap.size ≠ B := by omega
  have hR1 := own_blk ho1 hne HR.out
  have hs1 := ho1.size
  have Hc1 := Lib.hid hc1
  have Ho1 := Lib.hid (own_trans (own_alloc (own_refl B w) (.cells #[.int .i64 0, .int .i64 0, .int .i64 0, .int .i64 0] 35)) ho1)
  obtain ⟨a, cap, rfl, hcap, hr⟩ := hd
  obtain ⟨g, rfl, hg, hrow⟩ := hr (by omega)
  have hgl := hrow.lt
  obtain ⟨x, hx⟩ : ∃ x, l[0]? = some x := ⟨l[0], List.getElem?_eq_getElem (by omega)⟩
  have cx := IRow.cell hrow hx
  have bx := hbd x (List.mem_of_getElem? hx)
  obtain ⟨r0, r1, r2, r3⟩ := blk_cells hR1
  have fR := fun o => free_at hR1 o
  have hRl := lt_of_block hR1
  simp at hs1 hg
  obtain ⟨y, hy⟩ : ∃ y, l[1]? = some y := ⟨l[1], List.getElem?_eq_getElem (by omega)⟩
  have cy := IRow.cell hrow hy
  have bdy := hbd y (List.mem_of_getElem? hy)
  clear hy
  have HR1 := Lib.hid hR1
  clear hrow hr hx hbd hc1 ho1 hR1 Hc0 Hz HR
  go_wp2_with fail
  refine (Ha.out _).mono ?_
  rintro e w2 ⟨rfl, rfl⟩
  go_wp2_with fail
  refine (Ha.out _).mono ?_
  rintro e w3 ⟨rfl, rfl⟩
  go_wp2_with fail
  obtain ⟨k0', k1', k2', k3'⟩ := blk_cells (alloc_blk (.cells #[.int .i64 ((Gt.mk k x y 0)).k, .int .i64 ((Gt.mk k x y 0)).a, .int .i64 ((Gt.mk k x y 0)).b, .int .i64 ((Gt.mk k x y 0)).c] 35) (set4_at (u0 := .int .i64 k) (u1 := .int .i64 x) (u2 := .int .i64 y) (u3 := .int .i64 0) HR1.out))
  have hgb : GtBd (Gt.mk k x y 0) := by
    simp only [GtBd]
    omega
  refine bodyPost_ret (v := (.agg #[.int .i64 ((Gt.mk k x y 0)).k, .int .i64 ((Gt.mk k x y 0)).a, .int .i64 ((Gt.mk k x y 0)).b, .int .i64 ((Gt.mk k x y 0)).c])) (by simp only [results, Tryz.results157]; simp [go_sem, k0', k1', k2', k3']) rfl ⟨⟨(Gt.mk k x y 0), rfl, hgb⟩, ?_, ?_⟩
  · refine Hc1.out.below (C := w.heap.size) ?_ hB
    have := Below.refl w1.heap.size w1
    go_grown
  · refine own_under Ho1.out (C := w.heap.size) ?_ (Nat.le_refl _)
    have := Below.refl w1.heap.size w1
    go_grown
set_option maxRecDepth 100000 in
set_option maxHeartbeats 3200000 in
theorem on3 (B n : Nat) (k : Int) (w : World) (hcur : CurAt w B) (hB : B < w.heap.size) (k0 : 1 ≤ k) (k1 : k ≤ 12) (h1 : 1 ≤ n) (h4 : n ≤ 4) (ht : ar k = 3) (hn : 3 ≤ n) :
    Calls Tryz.prog 157 #[.pointer (some ⟨B, 0, none⟩), .int .i64 k, .int .i64 n] w fun e w' => (∃ g, e = .returned (.agg #[.int .i64 g.k, .int .i64 g.a, .int .i64 g.b, .int .i64 g.c]) ∧ GtBd g) ∧ CurAt w' B ∧ Own B w w' := by
  have Ha := Lib.hid (fun w => sar k w)
  rw [ht] at Ha
  clear ht
  have HR := Lib.hid (heap_alloc_new w (.cells #[.int .i64 0, .int .i64 0, .int .i64 0, .int .i64 0] 35))
  have Hc0 := Lib.hid (hcur.own (own_alloc (own_refl w.heap.size w) (.cells #[.int .i64 0, .int .i64 0, .int .i64 0, .int .i64 0] 35)) hB)
  have Hz := Lib.hid (show B < (w.alloc (.cells #[.int .i64 0, .int .i64 0, .int .i64 0, .int .i64 0] 35)).heap.size by simp; omega)
  go_enter Tryz.func157, Tryz.ntmps157
  go_wp2_with fail
  refine (perm_any B n _ Hc0.out Hz.out h1 h4).mono ?_
  rintro e w1 ⟨⟨v, l, rfl, hl, hbd, hd⟩, hc1, ho1⟩
  have hne : w.heap.size ≠ B := by omega
  have hR1 := own_blk ho1 hne HR.out
  have hs1 := ho1.size
  have Hc1 := Lib.hid hc1
  have Ho1 := Lib.hid (own_trans (own_alloc (own_refl B w) (.cells #[.int .i64 0, .int .i64 0, .int .i64 0, .int .i64 0] 35)) ho1)
  obtain ⟨a, cap, rfl, hcap, hr⟩ := hd
  obtain ⟨g, rfl, hg, hrow⟩ := hr (by omega)
  have hgl := hrow.lt
  obtain ⟨x, hx⟩ : ∃ x, l[0]? = some x := ⟨l[0], List.getElem?_eq_getElem (by omega)⟩
  have cx := IRow.cell hrow hx
  have bx := hbd x (List.mem_of_getElem? hx)
  obtain ⟨r0, r1, r2, r3⟩ := blk_cells hR1
  have fR := fun o => free_at hR1 o
  have hRl := lt_of_block hR1
  simp at hs1 hg
  obtain ⟨y, hy⟩ : ∃ y, l[1]? = some y := ⟨l[1], List.getElem?_eq_getElem (by omega)⟩
  have cy := IRow.cell hrow hy
  have bdy := hbd y (List.mem_of_getElem? hy)
  clear hy
  obtain ⟨z, hz⟩ : ∃ z, l[2]? = some z := ⟨l[2], List.getElem?_eq_getElem (by omega)⟩
  have cz := IRow.cell hrow hz
  have bdz := hbd z (List.mem_of_getElem? hz)
  clear hz
  have HR1 := Lib.hid hR1
  clear hrow hr hx hbd hc1 ho1 hR1 Hc0 Hz HR
  go_wp2_with fail
  refine (Ha.out _).mono ?_
  rintro e w2 ⟨rfl, rfl⟩
  go_wp2_with fail
  refine (Ha.out _).mono ?_
  rintro e w3 ⟨rfl, rfl⟩
  go_wp2_with fail
  obtain ⟨k0', k1', k2', k3'⟩ := blk_cells (alloc_blk (.cells #[.int .i64 ((Gt.mk k x y z)).k, .int .i64 ((Gt.mk k x y z)).a, .int .i64 ((Gt.mk k x y z)).b, .int .i64 ((Gt.mk k x y z)).c] 35) (set4_at (u0 := .int .i64 k) (u1 := .int .i64 x) (u2 := .int .i64 y) (u3 := .int .i64 z) HR1.out))
  have hgb : GtBd (Gt.mk k x y z) := by
    simp only [GtBd]
    omega
  refine bodyPost_ret (v := (.agg #[.int .i64 ((Gt.mk k x y z)).k, .int .i64 ((Gt.mk k x y z)).a, .int .i64 ((Gt.mk k x y z)).b, .int .i64 ((Gt.mk k x y z)).c])) (by simp only [results, Tryz.results157]; simp [go_sem, k0', k1', k2', k3']) rfl ⟨⟨(Gt.mk k x y z), rfl, hgb⟩, ?_, ?_⟩
  · refine Hc1.out.below (C := w.heap.size) ?_ hB
    have := Below.refl w1.heap.size w1
    go_grown
  · refine own_under Ho1.out (C := w.heap.size) ?_ (Nat.le_refl _)
    have := Below.refl w1.heap.size w1
    go_grown
theorem ar_pos {k : Int} (h0 : 1 ≤ k) (h1 : k ≤ 12) : ar k = 1 ∨ ar k = 2 ∨ ar k = 3 := by
  unfold ar
  (repeat' split) <;> omega
theorem on_any (B n : Nat) (k : Int) (w : World) (hcur : CurAt w B) (hB : B < w.heap.size) (k0 : 1 ≤ k) (k1 : k ≤ 12) (h1 : 1 ≤ n) (h4 : n ≤ 4) (hn : ar k ≤ n) :
    Calls Tryz.prog 157 #[.pointer (some ⟨B, 0, none⟩), .int .i64 k, .int .i64 n] w fun e w' => (∃ g, e = .returned (.agg #[.int .i64 g.k, .int .i64 g.a, .int .i64 g.b, .int .i64 g.c]) ∧ GtBd g) ∧ CurAt w' B ∧ Own B w w' := by
  rcases ar_pos k0 k1 with h | h | h
  · exact on1 B n k w hcur hB k0 k1 h1 h4 h (by omega)
  · exact on2 B n k w hcur hB k0 k1 h1 h4 h (by omega)
  · exact on3 B n k w hcur hB k0 k1 h1 h4 h (by omega)
end Go.Proofs.YtmpafidkpangeaaGreat
namespace Go.Proofs.YtmpafidkpangeaaGreat
open Go.RowKit
/-- areDistinctQubits. -/
def dqOk (l : List Int) (n : Int) (j : Nat) : Bool := decide (0 ≤ l.getD j 0 ∧ l.getD j 0 < n) && !decide (l.getD j 0 ∈ l.take j)
def dq (l : List Int) (n : Int) : Bool := (List.range l.length).all (dqOk l n)
theorem wrapN {n : Int} (h : 1 ≤ n ∧ n ≤ 4) : IntKind.i64.wrap (n - 1) = n - 1 := by
  rcases (show n = 1 ∨ n = 2 ∨ n = 3 ∨ n = 4 by omega) with rfl | rfl | rfl | rfl <;> decide +kernel
theorem range3 : List.range 3 = [0, 1, 2] := by decide
theorem range2 : List.range 2 = [0, 1] := by decide
theorem range1 : List.range 1 = [0] := by decide
theorem upTo (x n : Int) : decide (0 ≤ x ∧ x ≤ n - 1) = decide (0 ≤ x ∧ x < n) := decide_eq_decide.2 (by omega)
theorem gtB_no {g : Gt} {n : Int} (h : ¬ (1 ≤ n ∧ n ≤ 4)) : gtB g n = false := by unfold gtB; rw [decide_eq_false h]; simp
theorem gtB_zero {g : Gt} {n : Int} (h : ar g.k = 0) : gtB g n = false := by unfold gtB; rw [h]; simp
theorem gtB_1 {k a b c n : Int} (h : ar k = 1) (hn : 1 ≤ n ∧ n ≤ 4) : gtB ⟨k, a, b, c⟩ n = (decide (b = 0) && decide (c = 0) && dq [a] n) := by
  unfold gtB gtOk dq dqOk gqs
  simp only [h, wrapN hn, range3, List.length_cons, List.length_nil, Nat.zero_add, range1, List.all_cons, List.all_nil, decide_eq_true hn, upTo]
  simp [Bool.and_comm, Bool.and_left_comm]
theorem gtB_2 {k a b c n : Int} (h : ar k = 2) (hn : 1 ≤ n ∧ n ≤ 4) : gtB ⟨k, a, b, c⟩ n = (decide (c = 0) && dq [a, b] n) := by
  unfold gtB gtOk dq dqOk gqs
  simp only [h, wrapN hn, range3, List.length_cons, List.length_nil, Nat.zero_add, Nat.reduceAdd, range2, List.all_cons, List.all_nil, decide_eq_true hn, upTo]
  simp [Bool.and_comm, Bool.and_left_comm]
theorem gtB_3 {k a b c n : Int} (h : ar k = 3) (hn : 1 ≤ n ∧ n ≤ 4) : gtB ⟨k, a, b, c⟩ n = dq [a, b, c] n := by
  unfold gtB gtOk dq dqOk gqs
  simp only [h, wrapN hn, range3, List.length_cons, List.length_nil, Nat.zero_add, Nat.reduceAdd, List.all_cons, List.all_nil, decide_eq_true hn, upTo]
  simp
theorem gtB_parts {g : Gt} {n : Int} (h : gtB g n = true) : (1 ≤ n ∧ n ≤ 4) ∧ (1 ≤ g.k ∧ g.k ≤ 12) ∧ (0 ≤ g.a ∧ g.a < n) ∧ (0 ≤ g.b ∧ g.b < n) ∧ 0 ≤ g.c ∧ g.c < n := by
  unfold gtB at h
  simp only [Bool.and_eq_true, decide_eq_true_eq] at h
  obtain ⟨hall, hpos, hn⟩ := h
  have hw : IntKind.i64.wrap (n - 1) = n - 1 := by rw [IntKind.wrap_i64]; omega
  rw [hw, List.all_eq_true] at hall
  have hk : 1 ≤ g.k ∧ g.k ≤ 12 := by
    unfold ar at hpos
    repeat' split at hpos
    all_goals omega
  have key : ∀ j, j < 3 → 0 ≤ [g.a, g.b, g.c].getD j 0 ∧ [g.a, g.b, g.c].getD j 0 < n := fun j hj => by
    have h := hall j (List.mem_range.2 hj)
    unfold gtOk at h
    split at h
    · have := of_decide_eq_true h; omega
    · rw [Bool.and_eq_true] at h
      have := of_decide_eq_true h.1
      omega
  exact ⟨hn, hk, key 0 (by omega), key 1 (by omega), key 2 (by omega)⟩
end Go.Proofs.YtmpafidkpangeaaGreat
namespace Go.Proofs.YtmpafidkpangeaaGreat
open Go.RowKit
/-- InverseGate, of kinds and of gates. -/
def invK (k : Int) : Int := if k = 5 then 6 else if k = 6 then 5 else if k = 7 then 8 else if k = 8 then 7 else k
attribute [local irreducible] World.cell?
end Go.Proofs.YtmpafidkpangeaaGreat
namespace Go.Proofs.YtmpafidkpangeaaGreat
open Go.RowKit
/-- What gateKindOf answers. -/
def kV (k : Int) : Value :=
  if 1 ≤ k ∧ k ≤ 8 then .iface 96 (.agg #[.int .i64 (invK k), .bool (decide (k ≤ 6))])
  else if 9 ≤ k ∧ k ≤ 11 then .iface 147 (.agg #[])
  else if k = 12 then .iface 148 (.agg #[]) else .nilIface
theorem mkK1 (x : Value) (w : World) : (Instr.makeInterface 96 x).run Tryz.prog w = .ok (.iface 96 x) w := run_makeInterface w 96 x (by kernel_rfl)
theorem mkK2 (x : Value) (w : World) : (Instr.makeInterface 147 x).run Tryz.prog w = .ok (.iface 147 x) w := run_makeInterface w 147 x (by kernel_rfl)
theorem mkK3 (x : Value) (w : World) : (Instr.makeInterface 148 x).run Tryz.prog w = .ok (.iface 148 x) w := run_makeInterface w 148 x (by kernel_rfl)
theorem as11 (v : Value) (w : World) : (Instr.typeAssert (.iface 96 v) 98 96 true).run Tryz.prog w = .ok (.tuple #[v, .bool true]) w := by kernel_rfl
theorem as21 (v : Value) (w : World) : (Instr.typeAssert (.iface 147 v) 98 96 true).run Tryz.prog w = .ok (.tuple #[.agg #[.int .i64 0, .bool false], .bool false]) w := by kernel_rfl
theorem as31 (v : Value) (w : World) : (Instr.typeAssert (.iface 148 v) 98 96 true).run Tryz.prog w = .ok (.tuple #[.agg #[.int .i64 0, .bool false], .bool false]) w := by kernel_rfl
theorem as01 (w : World) : (Instr.typeAssert .nilIface 98 96 true).run Tryz.prog w = .ok (.tuple #[.agg #[.int .i64 0, .bool false], .bool false]) w := by kernel_rfl
theorem as22 (v : Value) (w : World) : (Instr.typeAssert (.iface 147 v) 98 147 true).run Tryz.prog w = .ok (.tuple #[v, .bool true]) w := by kernel_rfl
theorem as32 (v : Value) (w : World) : (Instr.typeAssert (.iface 148 v) 98 147 true).run Tryz.prog w = .ok (.tuple #[.agg #[], .bool false]) w := by kernel_rfl
theorem as02 (w : World) : (Instr.typeAssert .nilIface 98 147 true).run Tryz.prog w = .ok (.tuple #[.agg #[], .bool false]) w := by kernel_rfl
theorem as33 (v : Value) (w : World) : (Instr.typeAssert (.iface 148 v) 98 148 true).run Tryz.prog w = .ok (.tuple #[v, .bool true]) w := by kernel_rfl
theorem as03 (w : World) : (Instr.typeAssert .nilIface 98 148 true).run Tryz.prog w = .ok (.tuple #[.agg #[], .bool false]) w := by kernel_rfl
attribute [local irreducible] World.cell?
set_option maxRecDepth 100000 in
set_option maxHeartbeats 3200000 in
theorem ikind (k : Int) (w : World) :
    Calls Tryz.prog 65 #[.int .i64 k] w fun e w' => e = .returned (kV k) ∧ w = w' := by
  have m1 := mkK1
  have m2 := mkK2
  have m3 := mkK3
  by_cases h : 1 ≤ k ∧ k ≤ 12
  · rcases (show k = 1 ∨ k = 2 ∨ k = 3 ∨ k = 4 ∨ k = 5 ∨ k = 6 ∨ k = 7 ∨ k = 8 ∨ k = 9 ∨ k = 10 ∨ k = 11 ∨ k = 12 by omega) with rfl | rfl | rfl | rfl | rfl | rfl | rfl | rfl | rfl | rfl | rfl | rfl
    all_goals clear h
    all_goals go_enter Tryz.func65, Tryz.ntmps65
    all_goals go_wp2_with fail
    all_goals go_ret
    all_goals exact ⟨rfl, rfl⟩
  · have e : kV k = .nilIface := by unfold kV; rw [if_neg (by omega), if_neg (by omega), if_neg (by omega)]
    rw [e]
    have e1 : (k == 1) = false := by simp; omega
    have e2 : (k == 2) = false := by simp; omega
    have e3 : (k == 3) = false := by simp; omega
    have e4 : (k == 4) = false := by simp; omega
    have e5 : (k == 5) = false := by simp; omega
    have e6 : (k == 6) = false := by simp; omega
    have e7 : (k == 7) = false := by simp; omega
    have e8 : (k == 8) = false := by simp; omega
    have e9 : (k == 9) = false := by simp; omega
    have e10 : (k == 10) = false := by simp; omega
    have e11 : (k == 11) = false := by simp; omega
    have e12 : (k == 12) = false := by simp; omega
    clear h e
    go_enter Tryz.func65, Tryz.ntmps65
    go_wp2_with fail
    go_ret
    exact ⟨rfl, rfl⟩
/-- The four forms of a kind. -/
theorem kV_one {k : Int} (h : 1 ≤ k ∧ k ≤ 8) : kV k = .iface 96 (.agg #[.int .i64 (invK k), .bool (decide (k ≤ 6))]) := if_pos h
theorem kV_two {k : Int} (h : 9 ≤ k ∧ k ≤ 11) : kV k = .iface 147 (.agg #[]) := by unfold kV; rw [if_neg (by omega), if_pos h]
theorem kV_no {k : Int} (h : ¬ (1 ≤ k ∧ k ≤ 12)) : kV k = .nilIface := by unfold kV; rw [if_neg (by omega), if_neg (by omega), if_neg (by omega)]
theorem kind_cases (k : Int) : (1 ≤ k ∧ k ≤ 8) ∨ (9 ≤ k ∧ k ≤ 11) ∨ k = 12 ∨ ¬ (1 ≤ k ∧ k ≤ 12) := by omega
set_option maxRecDepth 100000 in
set_option maxHeartbeats 1600000 in
theorem iar0 (k : Int) (w : World) :
    Calls Tryz.prog 112 #[.int .i64 k] w fun e w' => e = .returned (.int .i64 (ar k)) ∧ w = w' := by
  have Hk := Lib.hid (fun w => ikind k w)
  rcases kind_cases k with h | h | rfl | h
  · rw [kV_one h] at Hk
    rw [show ar k = 1 from if_pos h]
    have h1 := as11
    clear h
    go_enter Tryz.func112, Tryz.ntmps112
    go_wp2_with fail
    refine (Hk.out _).mono ?_
    rintro e w1 ⟨rfl, rfl⟩
    go_wp2_with fail
    go_ret
    exact ⟨rfl, rfl⟩
  · rw [kV_two h] at Hk
    rw [show ar k = 2 by unfold ar; rw [if_neg (by omega), if_pos h]]
    have h1 := as21
    have h2 := as22
    clear h
    go_enter Tryz.func112, Tryz.ntmps112
    go_wp2_with fail
    refine (Hk.out _).mono ?_
    rintro e w1 ⟨rfl, rfl⟩
    go_wp2_with fail
    go_ret
    exact ⟨rfl, rfl⟩
  · have Hk' : Hid (∀ w, Calls Tryz.prog 65 #[.int .i64 12] w fun e w' => e = .returned (.iface 148 (.agg #[])) ∧ w = w') := Hk
    rw [show ar 12 = 3 from rfl]
    clear Hk
    have h1 := as31
    have h2 := as32
    have h3 := as33
    go_enter Tryz.func112, Tryz.ntmps112
    go_wp2_with fail
    refine (Hk'.out _).mono ?_
    rintro e w1 ⟨rfl, rfl⟩
    go_wp2_with fail
    go_ret
    exact ⟨rfl, rfl⟩
  · rw [kV_no h] at Hk
    rw [show ar k = 0 by unfold ar; rw [if_neg (by omega), if_neg (by omega), if_neg (by omega)]]
    have h1 := as01
    have h2 := as02
    have h3 := as03
    clear h
    go_enter Tryz.func112, Tryz.ntmps112
    go_wp2_with fail
    refine (Hk.out _).mono ?_
    rintro e w1 ⟨rfl, rfl⟩
    go_wp2_with fail
    go_ret
    exact ⟨rfl, rfl⟩
end Go.Proofs.YtmpafidkpangeaaGreat
namespace Go.Proofs.YtmpafidkpangeaaGreat
open Go.RowKit
/-- A slice whose row, if it has one, lies in block n, from B up to C. -/
def RowAt (w : World) (B C n : Nat) (v : Value) (r : List Dw) : Prop :=
  ∃ a cap, v = .slice a r.length cap ∧ r.length ≤ cap ∧ (0 < r.length → a = some ⟨n, 0, none⟩ ∧ B ≤ n ∧ n < C ∧ DRow w n r)
theorem RowAt.dsc2 {w : World} {B C n : Nat} {v : Value} {r : List Dw} (h : RowAt w B C n v r) : DSc w B C v r := by
  obtain ⟨a, cap, h1, h2, h3⟩ := h
  exact ⟨a, cap, h1, h2, fun hl => by obtain ⟨e, hB, hC, hr⟩ := h3 hl; exact ⟨n, e, hB, hC, hr⟩⟩
theorem RowAt.block {w w' : World} {B C n : Nat} {v : Value} {r : List Dw} (h : RowAt w B C n v r) (hb : 0 < r.length → B ≤ n → n < C → n < w.heap.size → w'.heap[n]? = w.heap[n]?) : RowAt w' B C n v r := by
  obtain ⟨a, cap, h1, h2, h3⟩ := h
  exact ⟨a, cap, h1, h2, fun hl => by obtain ⟨e, hB, hC, hr⟩ := h3 hl; exact ⟨e, hB, hC, hr.block (hb hl hB hC hr.lt)⟩⟩
theorem RowAt.mono {w : World} {B C D E n : Nat} {v : Value} {r : List Dw} (h : RowAt w B C n v r) (h1 : D ≤ B) (h2 : C ≤ E) : RowAt w D E n v r := by
  obtain ⟨a, cap, e1, e2, h3⟩ := h
  exact ⟨a, cap, e1, e2, fun hl => by obtain ⟨e, hB, hC, hr⟩ := h3 hl; exact ⟨e, by omega, by omega, hr⟩⟩
theorem DSc.rowAt {w : World} {B C : Nat} {v : Value} {r : List Dw} (h : DSc w B C v r) : ∃ n, RowAt w B C n v r := by
  obtain ⟨a, cap, h1, h2, h3⟩ := h
  by_cases hl : 0 < r.length
  · obtain ⟨g, e, hB, hC, hr⟩ := h3 hl
    exact ⟨g, a, cap, h1, h2, fun _ => ⟨e, hB, hC, hr⟩⟩
  · exact ⟨0, a, cap, h1, h2, fun h => absurd h hl⟩
/-- The rows' slices, each row in a block of its own. -/
def RwS (w : World) (B C : Nat) (vs : List Value) (M : List (List Dw)) : Prop :=
  vs.length = M.length ∧ ∃ G : Nat → Nat, (∀ j v r, vs[j]? = some v → M[j]? = some r → RowAt w B C (G j) v r) ∧
    (∀ i j r s, M[i]? = some r → M[j]? = some s → 0 < r.length → 0 < s.length → G i = G j → i = j)
theorem RwS.nil {w : World} {B C : Nat} : RwS w B C [] [] := ⟨rfl, fun _ => 0, fun j v r h => by simp at h, fun i j r s h => by simp at h⟩
theorem RwS.block {w w' : World} {B C : Nat} {vs : List Value} {M : List (List Dw)} (h : RwS w B C vs M) (hb : ∀ k, B ≤ k → k < C → k < w.heap.size → w'.heap[k]? = w.heap[k]?) : RwS w' B C vs M := by
  obtain ⟨h1, G, h2, h3⟩ := h
  exact ⟨h1, G, fun j v r hv hr => (h2 j v r hv hr).block fun _ a b c => hb _ a b c, h3⟩
/-- The rows stay where a block that holds no row of fractions turns. -/
theorem RwS.own {w w' : World} {B C g : Nat} {vs : List Value} {M : List (List Dw)} {cs : Array Value} (h : RwS w B C vs M) (hg : w.heap[g]? = some (.cells cs 36 (0, 0)))
    (hb : ∀ k, k ≠ g → k < w.heap.size → w'.heap[k]? = w.heap[k]?) : RwS w' B C vs M := by
  obtain ⟨h1, G, h2, h3⟩ := h
  refine ⟨h1, G, fun j v r hv hr => (h2 j v r hv hr).block fun hl _ _ c => hb _ ?_ c, h3⟩
  intro e
  obtain ⟨_, _, _, _, k⟩ := h2 j v r hv hr
  obtain ⟨_, _, _, cs', hc, _⟩ := k hl
  rw [e, hg] at hc
  injection hc with hc
  injection hc with _ hc
  exact absurd hc (by decide)
theorem RwS.mono {w : World} {B C D E : Nat} {vs : List Value} {M : List (List Dw)} (h : RwS w B C vs M) (h1 : D ≤ B) (h2 : C ≤ E) : RwS w D E vs M := by
  obtain ⟨a, G, b, c⟩ := h
  exact ⟨a, G, fun j v r hv hr => (b j v r hv hr).mono h1 h2, c⟩
theorem RwS.upto {w : World} {B C : Nat} {vs : List Value} {M : List (List Dw)} (h : RwS w B C vs M) : RwS w B w.heap.size vs M := by
  obtain ⟨a, G, b, c⟩ := h
  refine ⟨a, G, fun j v r hv hr => ?_, c⟩
  obtain ⟨p, cap, e1, e2, e3⟩ := b j v r hv hr
  exact ⟨p, cap, e1, e2, fun hl => by obtain ⟨e, hB, _, hr⟩ := e3 hl; exact ⟨e, hB, hr.lt, hr⟩⟩
theorem RwS.at {w : World} {B C : Nat} {vs : List Value} {M : List (List Dw)} (h : RwS w B C vs M) {j : Nat} {r : List Dw} (hr : M[j]? = some r) : ∃ v, vs[j]? = some v ∧ DSc w B C v r := by
  obtain ⟨h1, G, h2, h3⟩ := h
  have hj : j < M.length := by
    rcases Nat.lt_or_ge j M.length with k | k
    · exact k
    · rw [List.getElem?_eq_none k] at hr; cases hr
  have e : vs[j]? = some (vs[j]'(by omega)) := List.getElem?_eq_getElem _
  exact ⟨_, e, (h2 j _ r e hr).dsc2⟩
/-- A new row takes the place of row j. -/
theorem RwS.set {w w' : World} {B C C' : Nat} {vs : List Value} {M : List (List Dw)} (h : RwS w B C vs M) {j : Nat} {v : Value} {r : List Dw} (hv : DSc w' C C' v r) (hB : B ≤ C) (hC : C ≤ C')
    (hb : ∀ k, B ≤ k → k < C → k < w.heap.size → w'.heap[k]? = w.heap[k]?) : RwS w' B C' (vs.set j v) (M.set j r) := by
  obtain ⟨h1, G, h2, h3⟩ := h
  obtain ⟨n, hn⟩ := hv.rowAt
  refine ⟨by simp [h1], fun i => if i = j then n else G i, fun i u s hu hs => ?_, fun i k s t hs ht ls lt e => ?_⟩
  · by_cases hi : i = j
    · subst hi
      have hl : i < vs.length := by
        rcases Nat.lt_or_ge i vs.length with k | k
        · exact k
        · rw [List.getElem?_eq_none (by simpa using k)] at hu; cases hu
      rw [List.getElem?_set_self hl] at hu
      rw [List.getElem?_set_self (by omega)] at hs
      injection hu with hu; injection hs with hs
      subst hu hs
      simpa using hn.mono hB (Nat.le_refl _)
    · rw [List.getElem?_set_ne (by omega)] at hu
      rw [List.getElem?_set_ne (by omega)] at hs
      simp only [hi, if_false]
      exact ((h2 i u s hu hs).block fun _ a b c => hb _ a b c).mono (Nat.le_refl _) hC
  · have key : ∀ (i : Nat) (s : List Dw), i ≠ j → M[i]? = some s → 0 < s.length → G i < C := fun i s hi hs ls => by
      have hl : i < M.length := by
        rcases Nat.lt_or_ge i M.length with k | k
        · exact k
        · rw [List.getElem?_eq_none k] at hs; cases hs
      have e : vs[i]? = some (vs[i]'(by omega)) := List.getElem?_eq_getElem _
      obtain ⟨_, _, _, _, q⟩ := h2 i _ s e hs
      exact (q ls).2.2.1
    have self : ∀ (t : List Dw), (M.set j r)[j]? = some t → 0 < t.length → C ≤ n := fun t ht lt => by
      have hl : j < M.length := by
        rcases Nat.lt_or_ge j M.length with k | k
        · exact k
        · rw [List.getElem?_eq_none (by simpa using k)] at ht; cases ht
      rw [List.getElem?_set_self hl] at ht
      injection ht with ht
      subst ht
      obtain ⟨_, _, _, _, q⟩ := hn
      exact (q lt).2.1
    by_cases hi : i = j <;> by_cases hk : k = j
    · omega
    · exfalso
      simp only [hi, hk, if_true, if_false] at e
      rw [hi] at hs
      rw [List.getElem?_set_ne (by omega)] at ht
      have := key k t hk ht lt
      have := self s hs ls
      omega
    · exfalso
      simp only [hi, hk, if_true, if_false] at e
      rw [hk] at ht
      rw [List.getElem?_set_ne (by omega)] at hs
      have := key i s hi hs ls
      have := self t ht lt
      omega
    · simp only [hi, hk, if_false] at e
      rw [List.getElem?_set_ne (by omega)] at hs ht
      exact h3 i k s t hs ht ls lt e
/-- A new row behind the others. -/
theorem RwS.snoc {w w' : World} {B C C' : Nat} {vs : List Value} {M : List (List Dw)} (h : RwS w B C vs M) {v : Value} {r : List Dw} (hv : DSc w' C C' v r) (hB : B ≤ C) (hC : C ≤ C')
    (hb : ∀ k, B ≤ k → k < C → k < w.heap.size → w'.heap[k]? = w.heap[k]?) : RwS w' B C' (vs ++ [v]) (M ++ [r]) := by
  have hl := h.1
  have h0 : RwS w B C (vs ++ [.slice none 0 0]) (M ++ [[]]) := by
    obtain ⟨h1, G, h2, h3⟩ := h
    refine ⟨by simp [h1], G, fun j u s hu hs => ?_, fun i k s t hs ht ls lt e => ?_⟩
    · by_cases hj : j < M.length
      · rw [List.getElem?_append_left (by omega)] at hu
        rw [List.getElem?_append_left hj] at hs
        exact h2 j u s hu hs
      · rw [List.getElem?_append_right (by omega)] at hu
        rw [List.getElem?_append_right (by omega)] at hs
        by_cases hj2 : j - M.length = 0
        · rw [hj2] at hs
          rw [h1, hj2] at hu
          simp at hu hs
          subst hu hs
          exact ⟨none, 0, rfl, Nat.le_refl _, fun h => absurd h (by simp)⟩
        · rw [List.getElem?_eq_none (by simp; omega)] at hs; cases hs
    · have key : ∀ (i : Nat) (s : List Dw), (M ++ [[]])[i]? = some s → 0 < s.length → M[i]? = some s := fun i s hs ls => by
        by_cases hj : i < M.length
        · rwa [List.getElem?_append_left hj] at hs
        · rw [List.getElem?_append_right (by omega)] at hs
          by_cases hj2 : i - M.length = 0
          · rw [hj2] at hs; simp at hs; subst hs; simp at ls
          · rw [List.getElem?_eq_none (by simp; omega)] at hs; cases hs
      exact h3 i k s t (key i s hs ls) (key k t ht lt) ls lt e
  have h4 := h0.set (j := M.length) hv hB hC hb
  rw [List.set_append_right _ _ (by omega), List.set_append_right _ _ (by omega)] at h4
  simpa [hl] using h4
/-- A row turns in place, its length stays. -/
theorem RwS.turn {w : World} {B C : Nat} {vs : List Value} {M : List (List Dw)} (h : RwS w B C vs M) {j : Nat} {r : List Dw} (hr : M[j]? = some r) :
    ∃ v b c, vs[j]? = some v ∧ B ≤ b ∧ b ≤ c ∧ (c ≤ C ∨ c = B) ∧ DSc w b c v r ∧ (0 < r.length → c = b + 1 ∧ ∃ cs, w.heap[b]? = some (.cells cs 84 (0, 0))) ∧ (r.length = 0 → b = c) ∧
      ∀ w' r', r'.length = r.length → DSc w' b c v r' → Mid b c w w' → RwS w' B C vs (M.set j r') := by
  obtain ⟨h1, G, h2, h3⟩ := h
  have hj : j < M.length := by
    rcases Nat.lt_or_ge j M.length with k | k
    · exact k
    · rw [List.getElem?_eq_none k] at hr; cases hr
  have e : vs[j]? = some (vs[j]'(by omega)) := List.getElem?_eq_getElem _
  have hat := h2 j _ r e hr
  by_cases hl : 0 < r.length
  · obtain ⟨a, cap, e1, e2, e3⟩ := hat
    obtain ⟨ea, hB, hC, hrow⟩ := e3 hl
    refine ⟨_, G j, G j + 1, e, hB, by omega, .inl hC, ⟨a, cap, e1, e2, fun _ => ⟨_, ea, Nat.le_refl _, Nat.lt_succ_self _, hrow⟩⟩, fun _ => ⟨rfl, by obtain ⟨cs, hc, _⟩ := hrow; exact ⟨cs, hc⟩⟩, fun h => absurd h (by omega), fun w' r' hlen hd hm => ?_⟩
    refine ⟨by simp [h1], G, fun i u s hu hs => ?_, fun i k s t hs ht ls lt ek => ?_⟩
    · by_cases hi : i = j
      · subst hi
        rw [List.getElem?_set_self hj] at hs
        injection hs with hs
        subst hs
        rw [e] at hu
        injection hu with hu
        subst hu
        obtain ⟨a', cap', f1, f2, f3⟩ := hd
        refine ⟨a', cap', f1, f2, fun hl' => ?_⟩
        obtain ⟨g', f4, f5, f6, f7⟩ := f3 hl'
        obtain rfl : g' = G i := by omega
        exact ⟨f4, hB, hC, f7⟩
      · rw [List.getElem?_set_ne (by omega)] at hs
        refine (h2 i u s hu hs).block fun ls _ _ c => ?_
        have hne : G i ≠ G j := fun k => hi (h3 i j s r hs hr ls hl k)
        rcases Nat.lt_or_ge (G i) (G j) with k | k
        · exact hm.1.block _ k
        · exact hm.2 _ (by omega) c
    · have key : ∀ (i : Nat) (s : List Dw), (M.set j r')[i]? = some s → 0 < s.length → ∃ s' : List Dw, M[i]? = some s' ∧ 0 < s'.length := fun i s hs ls => by
        by_cases hi : i = j
        · subst hi
          rw [List.getElem?_set_self hj] at hs
          injection hs with hs
          exact ⟨r, hr, hl⟩
        · rw [List.getElem?_set_ne (by omega)] at hs
          exact ⟨s, hs, ls⟩
      obtain ⟨s', p1, p2⟩ := key i s hs ls
      obtain ⟨t', q1, q2⟩ := key k t ht lt
      exact h3 i k s' t' p1 q1 p2 q2 ek
  · have hr0 : r = [] := List.eq_nil_of_length_eq_zero (by omega)
    subst hr0
    refine ⟨_, B, B, e, Nat.le_refl _, Nat.le_refl _, .inr rfl, ?_, fun h => absurd h hl, fun _ => rfl, fun w' r' hlen hd hm => ?_⟩
    · obtain ⟨a, cap, e1, e2, _⟩ := hat
      exact ⟨a, cap, e1, e2, fun h => absurd h hl⟩
    · have hr1 : r' = [] := List.eq_nil_of_length_eq_zero (by simpa using hlen)
      subst hr1
      rw [show M.set j [] = M from by
        refine List.ext_getElem? fun i => ?_
        by_cases hi : i = j
        · subst hi; rw [List.getElem?_set_self hj, hr]
        · rw [List.getElem?_set_ne (by omega)]]
      exact ⟨h1, G, fun i u s hu hs => (h2 i u s hu hs).block fun _ a _ c => hm.2 _ a c, h3⟩
/-- The rows' slices at the head of block g. -/
def MRow (w : World) (B C g : Nat) (M : List (List Dw)) : Prop :=
  ∃ (cs : Array Value) (vs : List Value), w.heap[g]? = some (.cells cs 36 (0, 0)) ∧ cs.toList.take M.length = vs ∧ RwS w B C vs M
theorem MRow.lt {w : World} {B C g : Nat} {M : List (List Dw)} (h : MRow w B C g M) : g < w.heap.size := by obtain ⟨cs, vs, h1, _⟩ := h; exact lt_of_block h1
theorem MRow.free {w : World} {B C g : Nat} {M : List (List Dw)} (h : MRow w B C g M) (o : Nat) : w.frozen? ⟨g, o, none⟩ = false := by obtain ⟨cs, vs, h1, _⟩ := h; exact free_at h1 o
theorem MRow.block {w w' : World} {B C g : Nat} {M : List (List Dw)} (h : MRow w B C g M) (hg : w'.heap[g]? = w.heap[g]?) (hb : ∀ k, B ≤ k → k < C → k < w.heap.size → w'.heap[k]? = w.heap[k]?) : MRow w' B C g M := by
  obtain ⟨cs, vs, h1, h2, h3⟩ := h
  exact ⟨cs, vs, hg.trans h1, h2, h3.block hb⟩
theorem MRow.mono {w : World} {B C D E g : Nat} {M : List (List Dw)} (h : MRow w B C g M) (h1 : D ≤ B) (h2 : C ≤ E) : MRow w D E g M := by
  obtain ⟨cs, vs, a, b, c⟩ := h
  exact ⟨cs, vs, a, b, c.mono h1 h2⟩
theorem MRow.cell {w : World} {B C g : Nat} {M : List (List Dw)} (h : MRow w B C g M) {j : Nat} {r : List Dw} (hr : M[j]? = some r) :
    ∃ a cap, w.cell? ⟨g, j, none⟩ = some (.slice a r.length cap) ∧ DSc w B C (.slice a r.length cap) r := by
  obtain ⟨cs, vs, h1, h2, h3⟩ := h
  obtain ⟨v, hv, hd⟩ := h3.at hr
  have hj : j < M.length := by
    rcases Nat.lt_or_ge j M.length with k | k
    · exact k
    · rw [List.getElem?_eq_none k] at hr; cases hr
  have hd2 := hd
  obtain ⟨a, cap, rfl, _⟩ := hd2
  refine ⟨a, cap, cell_at h1 _ _ ?_, hd⟩
  rw [← h2, List.getElem?_take, if_pos hj] at hv
  rw [← Array.getElem?_toList]; exact hv
/-- Slot j is given a new row. -/
theorem MRow.put {w w' : World} {B C C' g : Nat} {M : List (List Dw)} (h : MRow w B C g M) {j : Nat} {v : Value} {r : List Dw} (_ : j < M.length) (hv : DSc w' C C' v r) (hB : B ≤ C) (hC : C ≤ C')
    (hb : ∀ k, k < w.heap.size → w'.heap[k]? = w.heap[k]?) : MRow (w'.setCell ⟨g, j, none⟩ v) B C' g (M.set j r) := by
  obtain ⟨cs, vs, h1, h2, h3⟩ := h
  have h1' := (hb g (lt_of_block h1)).trans h1
  refine ⟨_, vs.set j v, heap_set h1' _ _, ?_, ?_⟩
  · rw [List.length_set, ← h2, Array.toList_setIfInBounds, List.take_set]
  · exact (h3.set hv hB hC fun k _ _ c => hb k c).own h1' fun k hk _ => by rw [Below.heap_setCell _ _ _ _ (by show k ≠ g; omega)]
/-- Row j turns in place. -/
theorem MRow.turn {w : World} {B C g : Nat} {M : List (List Dw)} (h : MRow w B C g M) {j : Nat} {r : List Dw} (hr : M[j]? = some r) :
    ∃ a cap b c, w.cell? ⟨g, j, none⟩ = some (.slice a r.length cap) ∧ B ≤ b ∧ b ≤ c ∧ (c ≤ C ∨ c = B) ∧ DSc w b c (.slice a r.length cap) r ∧
      ∀ w' r', r'.length = r.length → DSc w' b c (.slice a r.length cap) r' → Mid b c w w' → MRow w' B C g (M.set j r') := by
  have hcell := h.cell hr
  obtain ⟨cs, vs, h1, h2, h3⟩ := h
  obtain ⟨v, b, c, hv, hB, hbc, hC, hd, hb, hn, hk⟩ := h3.turn hr
  have hj : j < M.length := by
    rcases Nat.lt_or_ge j M.length with k | k
    · exact k
    · rw [List.getElem?_eq_none k] at hr; cases hr
  have hc1 : w.cell? ⟨g, j, none⟩ = some v := by
    refine cell_at h1 _ _ ?_
    rw [← h2, List.getElem?_take, if_pos hj] at hv
    rw [← Array.getElem?_toList]; exact hv
  have hd2 := hd
  obtain ⟨a, cap, rfl, _⟩ := hd2
  refine ⟨a, cap, b, c, hc1, hB, hbc, hC, hd, fun w' r' hlen hd' hm => ⟨cs, vs, ?_, by rw [List.length_set]; exact h2, hk w' r' hlen hd' hm⟩⟩
  rw [← h1]
  by_cases hl : 0 < r.length
  · obtain ⟨rfl, cs', hc'⟩ := hb hl
    have hne : g ≠ b := by
      intro e
      subst e
      rw [h1] at hc'
      injection hc' with hc'
      injection hc' with _ hc'
      exact absurd hc' (by decide)
    rcases Nat.lt_or_ge g b with k | k
    · exact hm.1.block _ k
    · exact hm.2 _ (by omega) (lt_of_block h1)
  · obtain rfl := hn (by omega)
    rcases Nat.lt_or_ge g b with k | k
    · exact hm.1.block _ k
    · exact hm.2 _ k (lt_of_block h1)
/-- A matrix, all its blocks from B up to C. -/
def DSM (w : World) (B C : Nat) (v : Value) (M : List (List Dw)) : Prop :=
  ∃ a cap, v = .slice a M.length cap ∧ M.length ≤ cap ∧ (0 < M.length → ∃ g, a = some ⟨g, 0, none⟩ ∧ B ≤ g ∧ g < C ∧ MRow w B C g M)
theorem DSM.block {w w' : World} {B C : Nat} {v : Value} {M : List (List Dw)} (h : DSM w B C v M) (hb : ∀ k, B ≤ k → k < C → k < w.heap.size → w'.heap[k]? = w.heap[k]?) : DSM w' B C v M := by
  obtain ⟨a, cap, h1, h2, h3⟩ := h
  exact ⟨a, cap, h1, h2, fun hl => by obtain ⟨g, e, hB, hC, hr⟩ := h3 hl; exact ⟨g, e, hB, hC, hr.block (hb g hB hC hr.lt) hb⟩⟩
theorem DSM.below {w w' : World} {B C : Nat} {v : Value} {M : List (List Dw)} (h : DSM w B C v M) (hb : Below w.heap.size w w') : DSM w' B C v M := h.block fun k _ _ hk => hb.block k hk
theorem DSM.mono {w : World} {B C D E : Nat} {v : Value} {M : List (List Dw)} (h : DSM w B C v M) (h1 : D ≤ B) (h2 : C ≤ E) : DSM w D E v M := by
  obtain ⟨a, cap, e1, e2, h3⟩ := h
  exact ⟨a, cap, e1, e2, fun hl => by obtain ⟨g, e, hB, hC, hr⟩ := h3 hl; exact ⟨g, e, by omega, by omega, hr.mono h1 h2⟩⟩
theorem DSM.upto {w : World} {B C : Nat} {v : Value} {M : List (List Dw)} (h : DSM w B C v M) : DSM w B w.heap.size v M := by
  obtain ⟨a, cap, e1, e2, h3⟩ := h
  exact ⟨a, cap, e1, e2, fun hl => by obtain ⟨g, e, hB, hC, cs, vs, r1, r2, r3⟩ := h3 hl; exact ⟨g, e, hB, lt_of_block r1, cs, vs, r1, r2, r3.upto⟩⟩
theorem DSM.nil {w : World} {B C cap : Nat} {a : Option Addr} : DSM w B C (.slice a 0 cap) [] := ⟨_, _, rfl, Nat.zero_le _, fun h => absurd h (by simp)⟩
theorem DSM.of_own {w : World} {B C : Nat} {v : Value} {vs : List Value} {M : List (List Dw)} (h : w.ownsRow B 36 1 v M.length vs) (hr : RwS w B C vs M) (hC : w.heap.size ≤ C) : DSM w B C v M := by
  rcases h.2 with ⟨rfl, h2⟩ | ⟨g, cap, cur, hv, hb, hg, hn, hc, hs, ht⟩
  · exact ⟨none, 0, by rw [h2], by omega, fun h => absurd h (by omega)⟩
  · exact ⟨_, cap, hv, hn, fun _ => ⟨g, rfl, hb, by have := lt_of_block hg; omega, cur, _, hg, by rw [← ht]; simp, hr⟩⟩
theorem Mid.trans {B C : Nat} {w w' w2 : World} (h : Mid B C w w') (k : Mid B C w' w2) : Mid B C w w2 :=
  ⟨h.1.trans k.1, fun b hb hl => (k.2 b hb (Nat.lt_of_lt_of_le hl h.1.size)).trans (h.2 b hb hl)⟩
/-- Two rows' slices beside each other. -/
def SP2 (w : World) (g g' j B D : Nat) (x y : Value) (r s : List Dw) (w' : World) : Prop := w'.cell? ⟨g, j, none⟩ = some x ∧ w'.cell? ⟨g', j, none⟩ = some y ∧ g < w'.heap.size ∧ g' < w'.heap.size ∧ Hid (DSl w' B x r) ∧ Hid (DSl w' D y s) ∧ Below w.heap.size w w'
theorem SP2.drew {w w' : World} {g g' j B D : Nat} {x y : Value} {r s : List Dw} (h : SP2 w g g' j B D x y r s w') : SP2 w g g' j B D x y r s w'.drew :=
  let ⟨a, b, z, z', d, e, l⟩ := h; ⟨a, b, z, z', Lib.hid (d.out.block fun _ _ _ => rfl), Lib.hid (e.out.block fun _ _ _ => rfl), l.drew⟩
theorem SP2.below {w w1 w2 : World} {g g' j B D : Nat} {x y : Value} {r s : List Dw} (h : SP2 w g g' j B D x y r s w1) (hb : Below w1.heap.size w1 w2) : SP2 w g g' j B D x y r s w2 :=
  let ⟨a, b, z, z', d, e, l⟩ := h
  ⟨cell_below a hb z, cell_below b hb z', Nat.lt_of_lt_of_le z hb.size, Nat.lt_of_lt_of_le z' hb.size, Lib.hid (d.out.below hb), Lib.hid (e.out.below hb), below_up l hb l.size⟩
theorem SP2.one {w w' : World} {g g' j B D : Nat} {x y : Value} {r s : List Dw} (h : SP2 w g g' j B D x y r s w') : Hid (DSl w' B x r) := h.2.2.2.2.1
theorem SP2.two {w w' : World} {g g' j B D : Nat} {x y : Value} {r s : List Dw} (h : SP2 w g g' j B D x y r s w') : Hid (DSl w' D y s) := h.2.2.2.2.2.1
theorem SP2.low {w w' : World} {g g' j B D : Nat} {x y : Value} {r s : List Dw} (h : SP2 w g g' j B D x y r s w') : Below w.heap.size w w' := let ⟨_, _, _, _, _, _, l⟩ := h; l
/-- The rows stay where the row of their slices grows. -/
theorem RwS.grown {w w4 : World} {B C base n : Nat} {vs xs : List Value} {M : List (List Dw)} {out : Value} (h : RwS w B C vs M) (ho : w.ownsRow base 36 1 out n xs) (hg : w.grownBy w4 out.ownBlock) : RwS w4 B C vs M := by
  obtain ⟨h1, G, h2, h3⟩ := h
  refine ⟨h1, G, fun j v r hv hr => (h2 j v r hv hr).block fun hl _ _ c => hg.block _ c ?_, h3⟩
  intro e
  rcases ho.2 with ⟨rfl, _⟩ | ⟨g, cap, cur, rfl, _, hgb, _⟩
  · cases e
  · have e : g = G j := by have := e; simp [Value.ownBlock] at this; omega
    obtain ⟨_, _, _, _, k⟩ := h2 j v r hv hr
    obtain ⟨_, _, _, cs', hc, _⟩ := k hl
    rw [← e] at hc
    have hc2 := hgb.symm.trans hc
    injection hc2 with hc2
    injection hc2 with _ hc2
    exact absurd hc2 (by decide)
theorem slice_new (w : World) (v : Value) (t : TypeId) : ∀ j u, [v][j]? = some u → (w.alloc (.cells #[v] t)).cell? ((⟨w.heap.size, 0, none⟩ : Addr).add j) = some u := by
  intro j u hj
  match j, hj with
  | 0, hj =>
    injection hj with hj
    subst hj
    exact cell_at (heap_alloc_new w _) 0 _ rfl
theorem ownM_new {w : World} {n : Nat} {t : TypeId} (h : n = w.heap.size) : (w.alloc (.cells #[] t)).ownsRow n t 1 (.slice (some ⟨n, 0, none⟩) 0 0) 0 [] := by
  subst h; exact World.ownsRow_lit w #[] 0 (Nat.le_refl _) (Nat.zero_le _) rfl
end Go.Proofs.YtmpafidkpangeaaGreat
