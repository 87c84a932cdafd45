/- BaseB04: several of our texts in one: GtD GtKb GtKc MtO MtN MtS. -/
import Derived.Test.YtkcpemkahkkcmaaGtB
import Derived.Deep.AppendLies
import Derived.Deep.RegionLaw
import Derived.Test.YtkcpemkahkkcmaaBaseB16
import Derived.Test.YtkcpemkahkkcmaaBaseB17
import Derived.Test.YtkcpemkahkkcmaaBaseB09
import Derived.Deep.Slices
import Derived.Test.YtkcpemkahkkcmaaBaseB20
namespace Go.Proofs.Ytkcpemkahkkcmaa
open Go.RowKit
theorem own_under {B C : Nat} {a b c : World} (h : Own B a b) (k : Below C b c) (hC : a.heap.size ≤ C) : Own B a c :=
  ⟨k.os.trans h.os, k.tape.trans h.tape, k.output.trans h.output, Nat.le_trans h.size k.size, fun i hi hn => (k.block i (Nat.lt_of_lt_of_le hi hC)).trans (h.block i hi hn)⟩
theorem set1_blk {g b off : Nat} {W : World} {o : Obj} {u : Value} (hn : b ≠ g) (h : W.heap[b]? = some o) : (W.setCell ⟨g, off, none⟩ u).heap[b]? = some o := (Below.heap_setCell _ _ _ _ (by show b ≠ g; exact hn)).trans h
/-- A gate that was drawn: each of its numbers is small. -/
def GtBd (g : Gt) : Prop := (1 ≤ g.k ∧ g.k ≤ 12) ∧ (0 ≤ g.a ∧ g.a ≤ 3) ∧ (0 ≤ g.b ∧ g.b ≤ 3) ∧ 0 ≤ g.c ∧ g.c ≤ 3
attribute [local irreducible] World.cell?
set_option maxRecDepth 100000 in
set_option maxHeartbeats 3200000 in
theorem on1 (B n : Nat) (k : Int) (w : World) (hcur : CurAt w B) (hB : B < w.heap.size) (k0 : 1 ≤ k) (k1 : k ≤ 12) (h1 : 1 ≤ n) (h4 : n ≤ 4) (ht : ar k = 1) (_ : 1 ≤ n) :
    Calls Try.prog 169 #[.pointer (some ⟨B, 0, none⟩), .int .i64 k, .int .i64 n] w fun e w' => (∃ g, e = .returned (.agg #[.int .i64 g.k, .int .i64 g.a, .int .i64 g.b, .int .i64 g.c]) ∧ GtBd g) ∧ CurAt w' B ∧ Own B w w' := by
  have Ha := Lib.hid (fun w => sar k w)
  rw [ht] at Ha
  clear ht
  have HR := Lib.hid (heap_alloc_new w (.cells #[.int .i64 0, .int .i64 0, .int .i64 0, .int .i64 0] 66))
  have Hc0 := Lib.hid (hcur.own (own_alloc (own_refl w.heap.size w) (.cells #[.int .i64 0, .int .i64 0, .int .i64 0, .int .i64 0] 66)) hB)
  have Hz := Lib.hid (show B < (w.alloc (.cells #[.int .i64 0, .int .i64 0, .int .i64 0, .int .i64 0] 66)).heap.size by simp; omega)
  go_enter Try.func169, Try.ntmps169
  go_wp2_with fail
  refine (perm_any B n _ Hc0.out Hz.out h1 h4).mono ?_
  rintro e w1 ⟨⟨v, l, rfl, hl, hbd, hd⟩, hc1, ho1⟩
  have hne : w.heap.size ≠ B := by omega
  have hR1 := own_blk ho1 hne HR.out
  have hs1 := ho1.size
  have Hc1 := Lib.hid hc1
  have Ho1 := Lib.hid (own_trans (own_alloc (own_refl B w) (.cells #[.int .i64 0, .int .i64 0, .int .i64 0, .int .i64 0] 66)) ho1)
  obtain ⟨a, cap, rfl, hcap, hr⟩ := hd
  obtain ⟨g, rfl, hg, hrow⟩ := hr (by omega)
  have hgl := hrow.lt
  obtain ⟨x, hx⟩ : ∃ x, l[0]? = some x := ⟨l[0], List.getElem?_eq_getElem (by omega)⟩
  have cx := IRow.cell hrow hx
  have bx := hbd x (List.mem_of_getElem? hx)
  obtain ⟨r0, r1, r2, r3⟩ := blk_cells hR1
  have fR := fun o => free_at hR1 o
  have hRl := lt_of_block hR1
  simp at hs1 hg
  have HR1 := Lib.hid hR1
  clear hrow hr hx hbd hc1 ho1 hR1 Hc0 Hz HR
  go_wp2_with fail
  refine (Ha.out _).mono ?_
  rintro e w2 ⟨rfl, rfl⟩
  go_wp2_with fail
  refine (Ha.out _).mono ?_
  rintro e w3 ⟨rfl, rfl⟩
  go_wp2_with fail
  obtain ⟨k0', k1', k2', k3'⟩ := blk_cells (alloc_blk (.cells #[.int .i64 ((Gt.mk k x 0 0)).k, .int .i64 ((Gt.mk k x 0 0)).a, .int .i64 ((Gt.mk k x 0 0)).b, .int .i64 ((Gt.mk k x 0 0)).c] 66) (set4_at (u0 := .int .i64 k) (u1 := .int .i64 x) (u2 := .int .i64 0) (u3 := .int .i64 0) HR1.out))
  have hgb : GtBd (Gt.mk k x 0 0) := by
    simp only [GtBd]
    omega
  refine bodyPost_ret (v := (.agg #[.int .i64 ((Gt.mk k x 0 0)).k, .int .i64 ((Gt.mk k x 0 0)).a, .int .i64 ((Gt.mk k x 0 0)).b, .int .i64 ((Gt.mk k x 0 0)).c])) (by simp only [results, Try.results169]; simp [go_sem, k0', k1', k2', k3']) rfl ⟨⟨(Gt.mk k x 0 0), rfl, hgb⟩, ?_, ?_⟩
  · refine Hc1.out.below (C := w.heap.size) ?_ hB
    have := Below.refl w1.heap.size w1
    go_grown
  · refine own_under Ho1.out (C := w.heap.size) ?_ (Nat.le_refl _)
    have := Below.refl w1.heap.size w1
    go_grown
set_option maxRecDepth 100000 in
set_option maxHeartbeats 3200000 in
theorem on2 (B n : Nat) (k : Int) (w : World) (hcur : CurAt w B) (hB : B < w.heap.size) (k0 : 1 ≤ k) (k1 : k ≤ 12) (h1 : 1 ≤ n) (h4 : n ≤ 4) (ht : ar k = 2) (hn : 2 ≤ n) :
    Calls Try.prog 169 #[.pointer (some ⟨B, 0, none⟩), .int .i64 k, .int .i64 n] w fun e w' => (∃ g, e = .returned (.agg #[.int .i64 g.k, .int .i64 g.a, .int .i64 g.b, .int .i64 g.c]) ∧ GtBd g) ∧ CurAt w' B ∧ Own B w w' := by
  have Ha := Lib.hid (fun w => sar k w)
  rw [ht] at Ha
  clear ht
  have HR := Lib.hid (heap_alloc_new w (.cells #[.int .i64 0, .int .i64 0, .int .i64 0, .int .i64 0] 66))
  have Hc0 := Lib.hid (hcur.own (own_alloc (own_refl w.heap.size w) (.cells #[.int .i64 0, .int .i64 0, .int .i64 0, .int .i64 0] 66)) hB)
  have Hz := Lib.hid (show B < (w.alloc (.cells #[.int .i64 0, .int .i64 0, .int .i64 0, .int .i64 0] 66)).heap.size by simp; omega)
  go_enter Try.func169, Try.ntmps169
  go_wp2_with fail
  refine (perm_any B n _ Hc0.out Hz.out h1 h4).mono ?_
  rintro e w1 ⟨⟨v, l, rfl, hl, hbd, hd⟩, hc1, ho1⟩
  have hne : w.heap.size ≠ B := by omega
  have hR1 := own_blk ho1 hne HR.out
  have hs1 := ho1.size
  have Hc1 := Lib.hid hc1
  have Ho1 := Lib.hid (own_trans (own_alloc (own_refl B w) (.cells #[.int .i64 0, .int .i64 0, .int .i64 0, .int .i64 0] 66)) ho1)
  obtain ⟨a, cap, rfl, hcap, hr⟩ := hd
  obtain ⟨g, rfl, hg, hrow⟩ := hr (by omega)
  have hgl := hrow.lt
  obtain ⟨x, hx⟩ : ∃ x, l[0]? = some x := ⟨l[0], List.getElem?_eq_getElem (by omega)⟩
  have cx := IRow.cell hrow hx
  have bx := hbd x (List.mem_of_getElem? hx)
  obtain ⟨r0, r1, r2, r3⟩ := blk_cells hR1
  have fR := fun o => free_at hR1 o
  have hRl := lt_of_block hR1
  simp at hs1 hg
  obtain ⟨y, hy⟩ : ∃ y, l[1]? = some y := ⟨l[1], List.getElem?_eq_getElem (by omega)⟩
  have cy := IRow.cell hrow hy
  have bdy := hbd y (List.mem_of_getElem? hy)
  clear hy
  have HR1 := Lib.hid hR1
  clear hrow hr hx hbd hc1 ho1 hR1 Hc0 Hz HR
  go_wp2_with fail
  refine (Ha.out _).mono ?_
  rintro e w2 ⟨rfl, rfl⟩
  go_wp2_with fail
  refine (Ha.out _).mono ?_
  rintro e w3 ⟨rfl, rfl⟩
  go_wp2_with fail
  obtain ⟨k0', k1', k2', k3'⟩ := blk_cells (alloc_blk (.cells #[.int .i64 ((Gt.mk k x y 0)).k, .int .i64 ((Gt.mk k x y 0)).a, .int .i64 ((Gt.mk k x y 0)).b, .int .i64 ((Gt.mk k x y 0)).c] 66) (set4_at (u0 := .int .i64 k) (u1 := .int .i64 x) (u2 := .int .i64 y) (u3 := .int .i64 0) HR1.out))
  have hgb : GtBd (Gt.mk k x y 0) := by
    simp only [GtBd]
    omega
  refine bodyPost_ret (v := (.agg #[.int .i64 ((Gt.mk k x y 0)).k, .int .i64 ((Gt.mk k x y 0)).a, .int .i64 ((Gt.mk k x y 0)).b, .int .i64 ((Gt.mk k x y 0)).c])) (by simp only [results, Try.results169]; simp [go_sem, k0', k1', k2', k3']) rfl ⟨⟨(Gt.mk k x y 0), rfl, hgb⟩, ?_, ?_⟩
  · refine Hc1.out.below (C := w.heap.size) ?_ hB
    have := Below.refl w1.heap.size w1
    go_grown
  · refine own_under Ho1.out (C := w.heap.size) ?_ (Nat.le_refl _)
    have := Below.refl w1.heap.size w1
    go_grown
set_option maxRecDepth 100000 in
set_option maxHeartbeats 3200000 in
theorem on3 (B n : Nat) (k : Int) (w : World) (hcur : CurAt w B) (hB : B < w.heap.size) (k0 : 1 ≤ k) (k1 : k ≤ 12) (h1 : 1 ≤ n) (h4 : n ≤ 4) (ht : ar k = 3) (hn : 3 ≤ n) :
    Calls Try.prog 169 #[.pointer (some ⟨B, 0, none⟩), .int .i64 k, .int .i64 n] w fun e w' => (∃ g, e = .returned (.agg #[.int .i64 g.k, .int .i64 g.a, .int .i64 g.b, .int .i64 g.c]) ∧ GtBd g) ∧ CurAt w' B ∧ Own B w w' := by
  have Ha := Lib.hid (fun w => sar k w)
  rw [ht] at Ha
  clear ht
  have HR := Lib.hid (heap_alloc_new w (.cells #[.int .i64 0, .int .i64 0, .int .i64 0, .int .i64 0] 66))
  have Hc0 := Lib.hid (hcur.own (own_alloc (own_refl w.heap.size w) (.cells #[.int .i64 0, .int .i64 0, .int .i64 0, .int .i64 0] 66)) hB)
  have Hz := Lib.hid (show B < (w.alloc (.cells #[.int .i64 0, .int .i64 0, .int .i64 0, .int .i64 0] 66)).heap.size by simp; omega)
  go_enter Try.func169, Try.ntmps169
  go_wp2_with fail
  refine (perm_any B n _ Hc0.out Hz.out h1 h4).mono ?_
  rintro e w1 ⟨⟨v, l, rfl, hl, hbd, hd⟩, hc1, ho1⟩
  have hne : w.heap.size ≠ B := by omega
  have hR1 := own_blk ho1 hne HR.out
  have hs1 := ho1.size
  have Hc1 := Lib.hid hc1
  have Ho1 := Lib.hid (own_trans (own_alloc (own_refl B w) (.cells #[.int .i64 0, .int .i64 0, .int .i64 0, .int .i64 0] 66)) ho1)
  obtain ⟨a, cap, rfl, hcap, hr⟩ := hd
  obtain ⟨g, rfl, hg, hrow⟩ := hr (by omega)
  have hgl := hrow.lt
  obtain ⟨x, hx⟩ : ∃ x, l[0]? = some x := ⟨l[0], List.getElem?_eq_getElem (by omega)⟩
  have cx := IRow.cell hrow hx
  have bx := hbd x (List.mem_of_getElem? hx)
  obtain ⟨r0, r1, r2, r3⟩ := blk_cells hR1
  have fR := fun o => free_at hR1 o
  have hRl := lt_of_block hR1
  simp at hs1 hg
  obtain ⟨y, hy⟩ : ∃ y, l[1]? = some y := ⟨l[1], List.getElem?_eq_getElem (by omega)⟩
  have cy := IRow.cell hrow hy
  have bdy := hbd y (List.mem_of_getElem? hy)
  clear hy
  obtain ⟨z, hz⟩ : ∃ z, l[2]? = some z := ⟨l[2], List.getElem?_eq_getElem (by omega)⟩
  have cz := IRow.cell hrow hz
  have bdz := hbd z (List.mem_of_getElem? hz)
  clear hz
  have HR1 := Lib.hid hR1
  clear hrow hr hx hbd hc1 ho1 hR1 Hc0 Hz HR
  go_wp2_with fail
  refine (Ha.out _).mono ?_
  rintro e w2 ⟨rfl, rfl⟩
  go_wp2_with fail
  refine (Ha.out _).mono ?_
  rintro e w3 ⟨rfl, rfl⟩
  go_wp2_with fail
  obtain ⟨k0', k1', k2', k3'⟩ := blk_cells (alloc_blk (.cells #[.int .i64 ((Gt.mk k x y z)).k, .int .i64 ((Gt.mk k x y z)).a, .int .i64 ((Gt.mk k x y z)).b, .int .i64 ((Gt.mk k x y z)).c] 66) (set4_at (u0 := .int .i64 k) (u1 := .int .i64 x) (u2 := .int .i64 y) (u3 := .int .i64 z) HR1.out))
  have hgb : GtBd (Gt.mk k x y z) := by
    simp only [GtBd]
    omega
  refine bodyPost_ret (v := (.agg #[.int .i64 ((Gt.mk k x y z)).k, .int .i64 ((Gt.mk k x y z)).a, .int .i64 ((Gt.mk k x y z)).b, .int .i64 ((Gt.mk k x y z)).c])) (by simp only [results, Try.results169]; simp [go_sem, k0', k1', k2', k3']) rfl ⟨⟨(Gt.mk k x y z), rfl, hgb⟩, ?_, ?_⟩
  · refine Hc1.out.below (C := w.heap.size) ?_ hB
    have := Below.refl w1.heap.size w1
    go_grown
  · refine own_under Ho1.out (C := w.heap.size) ?_ (Nat.le_refl _)
    have := Below.refl w1.heap.size w1
    go_grown
theorem ar_pos {k : Int} (h0 : 1 ≤ k) (h1 : k ≤ 12) : ar k = 1 ∨ ar k = 2 ∨ ar k = 3 := by
  unfold ar
  (repeat' split) <;> omega
theorem on_any (B n : Nat) (k : Int) (w : World) (hcur : CurAt w B) (hB : B < w.heap.size) (k0 : 1 ≤ k) (k1 : k ≤ 12) (h1 : 1 ≤ n) (h4 : n ≤ 4) (hn : ar k ≤ n) :
    Calls Try.prog 169 #[.pointer (some ⟨B, 0, none⟩), .int .i64 k, .int .i64 n] w fun e w' => (∃ g, e = .returned (.agg #[.int .i64 g.k, .int .i64 g.a, .int .i64 g.b, .int .i64 g.c]) ∧ GtBd g) ∧ CurAt w' B ∧ Own B w w' := by
  rcases ar_pos k0 k1 with h | h | h
  · exact on1 B n k w hcur hB k0 k1 h1 h4 h (by omega)
  · exact on2 B n k w hcur hB k0 k1 h1 h4 h (by omega)
  · exact on3 B n k w hcur hB k0 k1 h1 h4 h (by omega)
end Go.Proofs.Ytkcpemkahkkcmaa
namespace Go.Proofs.Ytkcpemkahkkcmaa
open Go.RowKit
attribute [local irreducible] World.cell?
set_option maxRecDepth 100000 in
set_option maxHeartbeats 1600000 in
theorem iindexI (g cap : Nat) (l : List Int) (x : Int) (w : World) (h : AR w g l) (hm : l.length ≤ 1048576) :
    Calls Try.prog 197 #[.slice (some ⟨g, 0, none⟩) l.length cap, .int .i64 x] w fun e w' => (∃ r : Int, e = .returned (.int .i64 r) ∧ (x ∈ l ↔ 0 ≤ r)) ∧ w = w' := by
  have H := Lib.hid h
  clear h
  go_enter Try.func197, Try.ntmps197
  go_wp2_with fail
  go_loopw [8] (fun i wr => ∃ j : Nat, j ≤ l.length ∧ i = .int .i64 j ∧ Hid (x ∉ l.take j) ∧ w = wr) (fun i _ => l.length - (intOf i).toNat)
  case atStart => exact ⟨0, Nat.zero_le _, rfl, Lib.hid (by simp), rfl⟩
  case round =>
    obtain ⟨j, hj, rfl, Hn, rfl⟩ := hrel
    by_cases hlt : j < l.length
    · obtain ⟨y, hy⟩ : ∃ y, l[j]? = some y := ⟨l[j], List.getElem?_eq_getElem hlt⟩
      have c0 := H.out.cell hy
      have Hy := Lib.hid hy
      clear hy
      by_cases hxy : x = y
      · have he : (x == y) = true := by simpa using hxy
        have hin : x ∈ l := hxy ▸ List.mem_of_getElem? Hy.out
        have Hin := Lib.hid hin
        clear hin hxy
        go_wp2_with fail
        go_ret
        exact ⟨⟨j, rfl, fun _ => by omega, fun _ => Hin.out⟩, rfl⟩
      · have he : (x == y) = false := by simpa using hxy
        have Hn2 := Lib.hid (show x ∉ l.take (j + 1) by
          rw [List.take_add_one, Hy.out]; intro hc
          rcases List.mem_append.1 hc with hc | hc
          · exact Hn.out hc
          · exact hxy (by simpa using hc))
        clear hxy
        go_wp2_with fail
        go_roundw
        case rel => exact ⟨j + 1, by omega, by go_num, Hn2, trivial⟩
        case measure => simp [intOf]; omega
    · obtain rfl : j = l.length := by omega
      have hn := Hn.out
      rw [List.take_length] at hn
      have Hn2 := Lib.hid hn
      clear hn
      go_wp2_with fail
      go_ret
      exact ⟨⟨-1, rfl, fun hc => absurd hc Hn2.out, fun hc => absurd hc (by decide)⟩, rfl⟩
set_option maxRecDepth 100000 in
set_option maxHeartbeats 800000 in
theorem icontI (g cap : Nat) (l : List Int) (x : Int) (w : World) (h : AR w g l) (hm : l.length ≤ 1048576) :
    Calls Try.prog 175 #[.slice (some ⟨g, 0, none⟩) l.length cap, .int .i64 x] w fun e w' => e = .returned (.bool (decide (x ∈ l))) ∧ w = w' := by
  have H := Lib.hid (iindexI g cap l x w h hm)
  clear h
  obtain ⟨T, hT⟩ : ∃ T, T = decide (x ∈ l) := ⟨_, rfl⟩
  rw [← hT]
  have HT := Lib.hid hT
  clear hT
  go_enter Try.func175, Try.ntmps175
  go_wp2_with fail
  refine H.out.mono ?_
  rintro e w1 ⟨⟨r, rfl, hr⟩, rfl⟩
  by_cases h0 : 0 ≤ r
  · obtain rfl : T = true := HT.out.trans (decide_eq_true (hr.2 h0))
    clear hr
    go_wp2_with fail
    go_ret
    exact ⟨by first | rfl | simp [h0], rfl⟩
  · obtain rfl : T = false := HT.out.trans (decide_eq_false (fun hc => h0 (hr.1 hc)))
    clear hr
    go_wp2_with fail
    go_ret
    exact ⟨by first | rfl | simp [h0], rfl⟩
theorem AR.take {w : World} {g : Nat} {l : List Int} (h : AR w g l) (j : Nat) : AR w g (l.take j) := by
  obtain ⟨cs, ty, h1, h2⟩ := h
  refine ⟨cs, ty, h1, ?_⟩
  rw [List.map_take, ← h2, List.take_take, List.length_take]
set_option maxRecDepth 100000 in
set_option maxHeartbeats 3200000 in
theorem idist (g cap : Nat) (l : List Int) (n : Int) (w : World) (h : AR w g l) (hc : l.length ≤ cap) (hm : l.length ≤ 1048576) :
    Calls Try.prog 146 #[.slice (some ⟨g, 0, none⟩) l.length cap, .int .i64 n] w fun e w' => e = .returned (.bool (dq l n)) ∧ w = w' := by
  have HC := Lib.hid (fun j x => icontI g cap (l.take j) x w (h.take j) (by rw [List.length_take]; omega))
  have H := Lib.hid h
  clear h
  obtain ⟨T, hT⟩ : ∃ T, T = dq l n := ⟨_, rfl⟩
  rw [← hT]
  have HT := Lib.hid hT
  clear hT
  go_enter Try.func146, Try.ntmps146
  go_wp2_with fail
  go_loopw [9] (fun i wr => ∃ j : Nat, j ≤ l.length ∧ i = .int .i64 j ∧ Hid (∀ m, m < j → dqOk l n m = true) ∧ w = wr) (fun i _ => l.length - (intOf i).toNat)
  case atStart => exact ⟨0, Nat.zero_le _, rfl, Lib.hid (fun m hm => absurd hm (by omega)), rfl⟩
  case round =>
    obtain ⟨j, hj, rfl, Hn, rfl⟩ := hrel
    by_cases hlt : j < l.length
    · obtain ⟨y, hy⟩ : ∃ y, l[j]? = some y := ⟨l[j], List.getElem?_eq_getElem hlt⟩
      have c0 := H.out.cell hy
      have hD : l.getD j 0 = y := by rw [List.getD_eq_getElem?_getD, hy]; rfl
      have HD := Lib.hid (show dqOk l n j = (decide (0 ≤ y ∧ y < n) && !decide (y ∈ l.take j)) by unfold dqOk; rw [hD])
      have Hc := Lib.hid (HC.out j y)
      rw [show (l.take j).length = j by rw [List.length_take]; omega] at Hc
      have hbad : dqOk l n j = false → T = false := fun hb => HT.out.trans (by
        unfold dq
        rw [Bool.eq_false_iff]
        intro hall
        rw [List.all_eq_true] at hall
        rw [hall j (List.mem_range.2 hlt)] at hb
        cases hb)
      have Hbad := Lib.hid hbad
      clear hy hD hbad
      by_cases h0 : y < 0
      · obtain rfl : T = false := Hbad.out (by rw [HD.out, decide_eq_false (show ¬ (0 ≤ y ∧ y < n) by omega)]; rfl)
        go_wp2_with fail
        go_ret
        exact ⟨rfl, rfl⟩
      · by_cases h1 : y < n
        · have h1' : ¬ n ≤ y := by omega
          by_cases hin : y ∈ l.take j
          · obtain rfl : T = false := Hbad.out (by rw [HD.out, decide_eq_true hin]; simp)
            rw [decide_eq_true hin] at Hc
            clear hin
            go_wp2_with (first | (go_at_call 175; refine (Hc.out).mono ?_; rintro e w1 ⟨rfl, rfl⟩))
            go_ret
            exact ⟨rfl, rfl⟩
          · have Hn2 := Lib.hid (show ∀ m, m < j + 1 → dqOk l n m = true from fun m hm => by
              by_cases he : m = j
              · subst he; rw [HD.out, decide_eq_true (show 0 ≤ y ∧ y < n by omega), decide_eq_false hin]; rfl
              · exact Hn.out m (by omega))
            rw [decide_eq_false hin] at Hc
            clear hin
            go_wp2_with (first | (go_at_call 175; refine (Hc.out).mono ?_; rintro e w1 ⟨rfl, rfl⟩))
            go_roundw
            case rel => exact ⟨j + 1, by omega, by go_num, Hn2, trivial⟩
            case measure => simp [intOf]; omega
        · obtain rfl : T = false := Hbad.out (by rw [HD.out, decide_eq_false (show ¬ (0 ≤ y ∧ y < n) by omega)]; rfl)
          have h1' : n ≤ y := by omega
          go_wp2_with fail
          go_ret
          exact ⟨rfl, rfl⟩
    · obtain rfl : j = l.length := by omega
      obtain rfl : T = true := HT.out.trans (by
        unfold dq
        rw [List.all_eq_true]
        exact fun m hm => Hn.out m (List.mem_range.1 hm))
      go_wp2_with fail
      go_ret
      exact ⟨rfl, rfl⟩
end Go.Proofs.Ytkcpemkahkkcmaa
namespace Go.Proofs.Ytkcpemkahkkcmaa
open Go.RowKit
/-- The box of a gate lies at B. -/
def GB (w : World) (B : Nat) (g : Gt) (w' : World) : Prop := w'.cell? ⟨B, 0, none⟩ = some (.int .i64 g.k) ∧ w'.cell? ⟨B, 1, none⟩ = some (.int .i64 g.a) ∧ w'.cell? ⟨B, 2, none⟩ = some (.int .i64 g.b) ∧ w'.cell? ⟨B, 3, none⟩ = some (.int .i64 g.c) ∧ B < w'.heap.size ∧ Below w.heap.size w w'
theorem GB.drew {w w1 : World} {B : Nat} {g : Gt} (h : GB w B g w1) : GB w B g w1.drew :=
  let ⟨c0, c1, c2, c3, z0, l⟩ := h; ⟨c0, c1, c2, c3, z0, l.drew⟩
theorem GB.alloc {w w1 : World} {B : Nat} {g : Gt} {o : Obj} (h : GB w B g w1) : GB w B g (w1.alloc o) :=
  let ⟨c0, c1, c2, c3, z0, l⟩ := h
  have e : ∀ k, (w1.alloc o).cell? ⟨B, k, none⟩ = w1.cell? ⟨B, k, none⟩ := fun k => (Below.refl w1.heap.size w1).alloc (Nat.le_refl _) o |>.cell (by exact z0)
  ⟨(e 0).trans c0, (e 1).trans c1, (e 2).trans c2, (e 3).trans c3, by simp; omega, l.alloc l.size o⟩
attribute [local irreducible] World.cell?
end Go.Proofs.Ytkcpemkahkkcmaa
namespace Go.Proofs.Ytkcpemkahkkcmaa
open Go.ChangeShapes Go.WideShapes Go.ChangeAt Go.RowKit Go.Lib Go.Joins
theorem cellsLs : Try.prog.cellsOf 63 = 1 := by kernel_rfl
set_option maxRecDepth 100000 in
set_option maxHeartbeats 400000 in
theorem row_open {H : Type} {enc : TypeId × Value → H} {w : World} {base : Nat} {spare : Nat → Bool} {held : Bool} {fuel : Nat} {cs : List Value} {y : DataW H × List MemPlace}
    (h : DataW.trod enc Try.prog w base spare held fuel 63 cs = some y) : ∃ a0 cap l, cs = [.slice a0 (List.length l) cap] ∧ DsIn w w.heap.size a0 l := by
  rcases Deep.open_slice Try.underlying63 h with ⟨hcs, _⟩ | ⟨x, len, cap, m, n, D, Pl, hcs, _, hl, hm, hmm, _, hx⟩
  · subst hcs
    refine ⟨none, 0, [], rfl, ?_⟩
    exact ⟨Nat.zero_le _, fun y hy => absurd hy List.not_mem_nil, fun h => absurd h (by simp)⟩
  · subst hcs
    have hlm : len ≤ m := by rw [hmm]; split <;> omega
    haveI : Inhabited Dw := ⟨.zero⟩
    obtain ⟨X, hX⟩ := Deep.choose_lt (α := Dw) (p := fun i y => (∀ k, k < 5 → w.cell? ((x.add (i * 5)).add k) = (fl y)[k]?) ∧ -9223372036854775808 ≤ y.e ∧ y.e ≤ 9223372036854775807) (n := len) (fun i hi => by
      obtain ⟨cs', h1, h2⟩ := hx i (by omega)
      rw [cellsLw] at h1
      obtain ⟨_, _, h3⟩ := World.cells?_some h1
      obtain ⟨y, rfl, b0, b1⟩ := dw_cells h2
      exact ⟨y, h3, b0, b1⟩)
    have hlen : ((List.range len).map X).length = len := by simp
    refine ⟨some x, cap, (List.range len).map X, by rw [hlen], by rw [hlen]; omega, fun y hy => ?_, fun h0 => ?_⟩
    · obtain ⟨i, hi, rfl⟩ := List.mem_map.1 hy
      exact (hX i (List.mem_range.1 hi)).2
    · rw [hlen] at h0
      obtain ⟨b, off, spot⟩ := x
      have hc0 := (hX 0 h0).1 0 (by omega)
      have e0 : ((⟨b, off, spot⟩ : Addr).add (0 * 5)).add 0 = ⟨b, off, spot⟩ := by simp [Addr.add]
      rw [e0] at hc0
      have hspot : spot = none := World.cell?_spot (v := .int .i64 (X 0).n.a) hc0
      subst hspot
      refine ⟨b, off, rfl, ?_, fun j y hy => ?_⟩
      · exact World.block_lt_of_cell? _ _ (show w.cell? ⟨b, off, none⟩ = some (.int .i64 (X 0).n.a) from hc0)
      · rw [List.getElem?_map] at hy
        have hj : j < len := by
          rcases Nat.lt_or_ge j len with h' | h'
          · exact h'
          · rw [List.getElem?_eq_none (by simpa using h')] at hy; cases hy
        rw [List.getElem?_range hj] at hy
        injection hy with hy
        have hY := (hX j hj).1
        rw [hy] at hY
        have ha : ∀ k, (((⟨b, off, none⟩ : Addr).add (j * 5)).add k) = ⟨b, off + j * 5 + k, none⟩ := by
          intro k
          unfold Addr.add
          by_cases h1 : j * 5 = 0
          · by_cases h2 : k = 0
            · simp [h1, h2]
            · simp [h1, h2]
          · by_cases h2 : k = 0
            · simp [h1, h2]
            · simp [h1, h2]
        have h5 := fun k hk => (congrArg w.cell? (ha k)).symm.trans (hY k hk)
        exact ⟨h5 0 (by omega), h5 1 (by omega), h5 2 (by omega), h5 3 (by omega), h5 4 (by omega)⟩
set_option maxRecDepth 100000 in
set_option maxHeartbeats 400000 in
theorem open_mt {H : Type} {enc : TypeId × Value → H} {w : World} {spare : Nat → Bool} {held : Bool} {r : Reach} {b0 : Nat} {v : Value} {d : DataW H} {p : List MemPlace}
    (hv : Value.okWide Try.prog w r b0 53 v) (h : DataW.Trod enc Try.prog w 0 spare held 53 v d p) :
    ∃ a0 cap M, v = .slice a0 (List.length M) cap ∧ MtIn w w.heap.size a0 M := by
  obtain ⟨a0, len, cap, rfl⟩ := okWide_slice Try.underlying53 hv
  obtain ⟨fuel, hf⟩ := h
  rcases Deep.open_slice1 Try.underlying53 cellsLs hf with ⟨hcs, _⟩ | ⟨x, l, c, m, n, V, D, Pl, hcs, _, hl, hm, hmm, _, hx⟩
  · simp [Value.cells] at hcs
    obtain ⟨rfl, rfl, rfl⟩ := hcs
    exact ⟨none, 0, [], rfl, Nat.zero_le _, fun h => absurd h (by simp)⟩
  · simp [Value.cells] at hcs
    obtain ⟨rfl, rfl, rfl⟩ := hcs
    have hlm : len ≤ m := by rw [hmm]; split <;> omega
    obtain ⟨X, hX⟩ := Deep.choose_lt (α := List Dw) (p := fun i l => ∃ a c, w.cell? (x.add i) = some (.slice a (List.length l) c) ∧ DsIn w w.heap.size a l) (n := len) (fun i hi => by
      obtain ⟨h1, h2⟩ := hx i (by omega)
      obtain ⟨a, c, l, e, hd⟩ := row_open h2
      injection e with e
      exact ⟨l, a, c, by rw [h1, e], hd⟩)
    have hlen : ((List.range len).map X).length = len := by simp
    refine ⟨some x, cap, (List.range len).map X, by rw [hlen], by rw [hlen]; omega, fun h0 => ?_⟩
    rw [hlen] at h0
    obtain ⟨b, off, spot⟩ := x
    obtain ⟨a1, c1, hc0, _⟩ := hX 0 h0
    have e0 : ((⟨b, off, spot⟩ : Addr).add 0) = ⟨b, off, spot⟩ := by simp [Addr.add]
    rw [e0] at hc0
    have hspot : spot = none := World.cell?_spot hc0
    subst hspot
    refine ⟨b, off, rfl, ?_, fun j r hr => ?_⟩
    · exact World.block_lt_of_cell? _ _ hc0
    · rw [List.getElem?_map] at hr
      have hj : j < len := by
        rcases Nat.lt_or_ge j len with h' | h'
        · exact h'
        · rw [List.getElem?_eq_none (by simpa using h')] at hr; cases hr
      rw [List.getElem?_range hj] at hr
      injection hr with hr
      obtain ⟨a, c, h1, h2⟩ := hX j hj
      rw [hr] at h1 h2
      refine ⟨a, c, ?_, h2⟩
      rw [← h1]
      congr 1
      unfold Addr.add
      by_cases hj0 : j = 0
      · simp [hj0]
      · simp [hj0]
end Go.Proofs.Ytkcpemkahkkcmaa
namespace Go.Proofs.Ytkcpemkahkkcmaa
open Go.RowKit
/-- The marks of a matrix that begin at k. -/
def marksM : Nat → List (List Dw) → List (List Dw)
  | _, [] => []
  | k, r :: M => marks k r.length :: marksM (k + r.length * 5) M
theorem marksM_len : ∀ (k : Nat) (M : List (List Dw)), (marksM k M).length = M.length
  | _, [] => rfl
  | k, r :: M => by rw [marksM, List.length_cons, marksM_len, List.length_cons]
theorem amps_cons (r : List Dw) (M : List (List Dw)) : amps (r :: M) = r.length + amps M := by simp [amps]
theorem marksM_snoc : ∀ (k : Nat) (M : List (List Dw)) (r : List Dw), marksM k (M ++ [r]) = marksM k M ++ [marks (k + amps M * 5) r.length]
  | k, [], r => by simp [marksM, amps]
  | k, s :: M, r => by
    rw [List.cons_append, marksM, marksM_snoc, marksM, List.cons_append, amps_cons]
    congr 4
    omega
theorem marksM_at {k : Nat} {M : List (List Dw)} {j : Nat} {r : List Dw} (hr : M[j]? = some r) : (marksM k M)[j]? = some (marks (k + amps (M.take j) * 5) r.length) := by
  have h : j < M.length := by
    rcases Nat.lt_or_ge j M.length with h' | h'
    · exact h'
    · rw [List.getElem?_eq_none h'] at hr; cases hr
  induction M generalizing k j with
  | nil => simp at h
  | cons s M ih =>
    cases j with
    | zero => simp at hr; subst hr; simp [marksM, amps]
    | succ j =>
      rw [marksM, List.getElem?_cons_succ, ih (by simpa using hr) (by simpa using h), List.take_succ_cons, amps_cons]
      congr 2
      omega
theorem markM_at {k : Nat} {M : List (List Dw)} {j : Nat} {r : List Dw} (hr : M[j]? = some r) : (marksM k (M.take j) ++ M.drop j)[j]? = some r := by
  have h : j < M.length := by
    rcases Nat.lt_or_ge j M.length with h' | h'
    · exact h'
    · rw [List.getElem?_eq_none h'] at hr; cases hr
  rw [List.getElem?_append_right (by rw [marksM_len, List.length_take]; omega), marksM_len, List.length_take, List.getElem?_drop]
  rw [show j + (j - min j M.length) = j by omega]
  exact hr
theorem markM_set {k : Nat} {M : List (List Dw)} {j : Nat} {r : List Dw} (hr : M[j]? = some r) : (marksM k (M.take j) ++ M.drop j).set j (marks (k + amps (M.take j) * 5) r.length) = marksM k (M.take (j + 1)) ++ M.drop (j + 1) := by
  have h : j < M.length := by
    rcases Nat.lt_or_ge j M.length with h' | h'
    · exact h'
    · rw [List.getElem?_eq_none h'] at hr; cases hr
  have e : M.drop j = r :: M.drop (j + 1) := by
    rw [List.getElem?_eq_getElem h] at hr
    injection hr with hr
    rw [← hr]
    exact (List.getElem_cons_drop ..).symm
  rw [List.set_append_right _ _ (by rw [marksM_len, List.length_take]; omega), marksM_len, List.length_take, show j - min j M.length = 0 by omega, e, List.set_cons_zero, List.take_add_one, hr]
  rw [show (some r).toList = [r] from rfl, marksM_snoc, List.append_assoc]
  rfl
attribute [local irreducible] World.cell?
set_option maxRecDepth 100000 in
set_option maxHeartbeats 1600000 in
theorem markMt (B C k : Nat) (v : Value) (M : List (List Dw)) (w : World) (hv : DSM w B C v M) (hn : M.length ≤ 1048576) (hm : amps M ≤ 1048576) (hk : k ≤ 536870912) :
    Calls Try.prog 45 #[v, .int .i64 k] w fun e w' => e = .returned (.int .i64 ((k + amps M * 5 : Nat) : Int)) ∧ DSM w' B C v (marksM k M) ∧ Mid B C w w' := by
  obtain ⟨a, cap, rfl, hcap, hr⟩ := hv
  have Hr := Lib.hid hr
  clear hr
  go_enter Try.func45, Try.ntmps45
  go_wp2_with fail
  go_loopg [1, 5] M.length (fun n m i wr => ∃ j : Nat, n = M.length - j ∧ j ≤ M.length ∧ m = .int .i64 ((k + amps (M.take j) * 5 : Nat) : Int) ∧ i = .int .i64 j ∧ Hid (∀ g, a = some ⟨g, 0, none⟩ → B ≤ g → g < C → MRow w B C g M → MRow wr B C g (marksM k (M.take j) ++ M.drop j)) ∧ Hid (Mid B C w wr))
  case atStart => exact ⟨0, rfl, Nat.zero_le _, by simp [amps], rfl, fun g _ _ _ h => by simpa [marksM] using h, Mid.refl _ _ _⟩
  case round =>
    obtain ⟨j, rfl, hj, rfl, rfl, Hrow, Hm⟩ := hrel
    by_cases hlt : j < M.length
    · obtain ⟨g, rfl, hB, hC, hrow0⟩ := Hr.out (by omega)
      have hrow := Hrow.out g rfl hB hC hrow0
      obtain ⟨r, hr⟩ : ∃ r, M[j]? = some r := ⟨M[j], List.getElem?_eq_getElem hlt⟩
      obtain ⟨p, pc, b, c, c0, hb0, hbc, hc0, hd, hturn⟩ := hrow.turn (markM_at hr)
      have hle := amps_le (M := M) (j + 1)
      have hstep := amps_step hr
      have Hd := Lib.hid (fun W (h : DSc W b c (.slice p r.length pc) r) => markDs b c (k + amps (M.take j) * 5) (.slice p r.length pc) r W h (by omega) (by omega))
      have Hdc := Lib.hid hd
      have Hturn := Lib.hid hturn
      have Hset := Lib.hid (markM_set (k := k) hr)
      clear hd hturn hrow Hrow hrow0 hr
      go_wp2_with fail
      refine (Hd.out _ Hdc.out).mono ?_
      rintro e w2 ⟨rfl, hds, hmid⟩
      have hr2 := Hturn.out _ _ (marks_len _ _) hds hmid
      rw [Hset.out] at hr2
      have Hr2 := Lib.hid hr2
      have Hm2 := Lib.hid (Hm.out.trans (hmid.wide hb0 (by omega)))
      clear hr2 hmid hds Hd Hdc Hturn Hm
      go_wp2_with fail
      go_roundg (M.length - (j + 1))
      case measure => omega
      case rel => exact ⟨j + 1, rfl, by omega, by rw [hstep]; congr 2; omega, by go_num, fun g' hg _ _ _ => by cases hg; exact Hr2.out, Hm2⟩
    · obtain rfl : j = M.length := by omega
      go_wp2_with fail
      go_ret
      refine ⟨by rw [List.take_length]; rfl, ⟨_, _, by rw [marksM_len], by rw [marksM_len]; exact hcap, fun hl => ?_⟩, Hm.out⟩
      rw [marksM_len] at hl
      obtain ⟨g, e, hB, hC, hrow0⟩ := Hr.out hl
      exact ⟨g, e, hB, hC, by simpa using Hrow.out g e hB hC hrow0⟩
set_option maxRecDepth 100000 in
set_option maxHeartbeats 1600000 in
theorem heldMt (B C k : Nat) (v : Value) (M : List (List Dw)) (w : World) (hv : DSM w B C v (marksM k M)) (hn : M.length ≤ 1048576) (hm : amps M ≤ 1048576) (hk : k ≤ 536870912) :
    Calls Try.prog 46 #[v, .int .i64 k] w fun e w' => e = .returned (.int .i64 ((k + amps M * 5 : Nat) : Int)) ∧ w = w' := by
  obtain ⟨a, cap, rfl, hcap, hr⟩ := hv
  rw [marksM_len] at hcap hr ⊢
  have Hr := Lib.hid hr
  clear hr
  go_enter Try.func46, Try.ntmps46
  go_wp2_with fail
  go_loopg [1, 5] M.length (fun n m i wr => ∃ j : Nat, n = M.length - j ∧ j ≤ M.length ∧ m = .int .i64 ((k + amps (M.take j) * 5 : Nat) : Int) ∧ i = .int .i64 j ∧ w = wr)
  case atStart => exact ⟨0, rfl, Nat.zero_le _, by simp [amps], rfl, rfl⟩
  case round =>
    obtain ⟨j, rfl, hj, rfl, rfl, rfl⟩ := hrel
    by_cases hlt : j < M.length
    · obtain ⟨g, rfl, hB, hC, hrow⟩ := Hr.out (by omega)
      obtain ⟨r, hr⟩ : ∃ r, M[j]? = some r := ⟨M[j], List.getElem?_eq_getElem hlt⟩
      obtain ⟨p, pc, c0, hd⟩ := hrow.cell (marksM_at (k := k) hr)
      have hle := amps_le (M := M) (j + 1)
      have hstep := amps_step hr
      have Hd := Lib.hid (heldDs B (k + amps (M.take j) * 5) r.length _ w hd.dsl (by omega) (by omega))
      rw [marks_len] at c0 Hd
      clear hd hrow
      go_wp2_with fail
      refine (Hd.out).mono ?_
      rintro e w2 ⟨rfl, rfl⟩
      go_wp2_with fail
      go_roundg (M.length - (j + 1))
      case measure => omega
      case rel => exact ⟨j + 1, rfl, by omega, by rw [hstep]; congr 2; omega, by go_num, rfl⟩
    · obtain rfl : j = M.length := by omega
      go_wp2_with fail
      go_ret
      exact ⟨by rw [List.take_length]; rfl, rfl⟩
end Go.Proofs.Ytkcpemkahkkcmaa
namespace Go.Proofs.Ytkcpemkahkkcmaa
open Go.RowKit
theorem toMtB (a0 : Option Addr) (cap B : Nat) (M : List (List Dw)) (w : World) (hin : MtIn w B a0 M) (hB : B ≤ w.heap.size) (hn1 : M.length ≤ 1048576) (hn2 : amps M ≤ 1048576) :
    Calls Try.prog 43 #[.slice a0 M.length cap] w fun e w' => ∃ v, e = .returned v ∧ DSM w' w.heap.size w'.heap.size v M ∧ Below w.heap.size w w' := toMt a0 cap M w (hin.mono hB) hn1 hn2
theorem szMFit (a0 : Option Addr) (cap B : Nat) (M : List (List Dw)) (l : Int) (w : World) (hin : MtIn w B a0 M) (h : (M.length : Int) + amps M ≤ l) (l1 : l ≤ 1048576) :
    Calls Try.prog 42 #[.slice a0 M.length cap, .int .i64 l] w fun e w' => e = .returned (.int .i64 (l - M.length - amps M)) ∧ w = w' := by
  have h2 := szMt a0 cap B M l w hin (by omega) l1
  rwa [if_pos h] at h2
theorem szMBig (a0 : Option Addr) (cap B : Nat) (M : List (List Dw)) (l : Int) (w : World) (hin : MtIn w B a0 M) (h : ¬ (M.length : Int) + amps M ≤ l) (l0 : 0 ≤ l) (l1 : l ≤ 1048576) :
    Calls Try.prog 42 #[.slice a0 M.length cap, .int .i64 l] w fun e w' => e = .returned (.int .i64 (-1)) ∧ w = w' := by
  have h2 := szMt a0 cap B M l w hin l0 l1
  rwa [if_neg h] at h2
theorem markM1 (B C : Nat) (v : Value) (M : List (List Dw)) (w : World) (hv : DSM w B C v M) (hn : M.length ≤ 1048576) (hm : amps M ≤ 1048576) :
    Calls Try.prog 45 #[v, .int .i64 1] w fun e w' => e = .returned (.int .i64 (1 + (amps M : Int) * 5)) ∧ DSM w' B C v (marksM 1 M) ∧ Mid B C w w' := by
  refine (markMt B C 1 v M w hv hn hm (by omega)).mono ?_
  rintro e w1 ⟨rfl, h⟩
  exact ⟨by simp, h⟩
theorem markM2 (B C m : Nat) (v : Value) (M : List (List Dw)) (w : World) (hv : DSM w B C v M) (hn : M.length ≤ 1048576) (hm : amps M ≤ 1048576) (hm' : m ≤ 1048576) :
    Calls Try.prog 45 #[v, .int .i64 (1 + (m : Int) * 5)] w fun e w' => e = .returned (.int .i64 (1 + (m : Int) * 5 + (amps M : Int) * 5)) ∧ DSM w' B C v (marksM (1 + m * 5) M) ∧ Mid B C w w' := by
  have h := markMt B C (1 + m * 5) v M w hv hn hm (by omega)
  rw [show ((1 + m * 5 : Nat) : Int) = 1 + (m : Int) * 5 by simp] at h
  refine h.mono ?_
  rintro e w1 ⟨rfl, h⟩
  exact ⟨by simp, h⟩
theorem heldM1 (B C : Nat) (v : Value) (M : List (List Dw)) (w : World) (hv : DSM w B C v (marksM 1 M)) (hn : M.length ≤ 1048576) (hm : amps M ≤ 1048576) :
    Calls Try.prog 46 #[v, .int .i64 1] w fun e w' => e = .returned (.int .i64 (1 + (amps M : Int) * 5)) ∧ w = w' := by
  refine (heldMt B C 1 v M w hv hn hm (by omega)).mono ?_
  rintro e w1 ⟨rfl, h⟩
  exact ⟨by simp, h⟩
theorem Mid.low {B C : Nat} {w w' : World} (h : Mid B C w w') : w.heap.size ≤ w'.heap.size := h.1.size
end Go.Proofs.Ytkcpemkahkkcmaa
