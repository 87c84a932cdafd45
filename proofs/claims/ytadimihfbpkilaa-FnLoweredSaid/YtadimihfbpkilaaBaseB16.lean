/- BaseB16: several of our texts in one: GtD AmM PmL PmS PmT. -/
import Derived.Test.YtadimihfbpkilaaGtB
import Derived.Test.YtadimihfbpkilaaBaseB01
import Derived.Deep.AppendLies
import Derived.Deep.RegionLaw
import Derived.Test.YtadimihfbpkilaaBaseB15
import Derived.Test.YtadimihfbpkilaaBaseB14
import Derived.Test.YtadimihfbpkilaaBaseB08
namespace Go.Proofs.Ytadimihfbpkilaa
open Go.RowKit
theorem own_under {B C : Nat} {a b c : World} (h : Own B a b) (k : Below C b c) (hC : a.heap.size ≤ C) : Own B a c :=
  ⟨k.os.trans h.os, k.tape.trans h.tape, k.output.trans h.output, Nat.le_trans h.size k.size, fun i hi hn => (k.block i (Nat.lt_of_lt_of_le hi hC)).trans (h.block i hi hn)⟩
/-- A gate that was drawn: each of its numbers is small. -/
def GtBd (g : Gt) : Prop := (1 ≤ g.k ∧ g.k ≤ 12) ∧ (0 ≤ g.a ∧ g.a ≤ 3) ∧ (0 ≤ g.b ∧ g.b ≤ 3) ∧ 0 ≤ g.c ∧ g.c ≤ 3
attribute [local irreducible] World.cell?
set_option maxRecDepth 100000 in
set_option maxHeartbeats 3200000 in
theorem on1 (B n : Nat) (k : Int) (w : World) (hcur : CurAt w B) (hB : B < w.heap.size) (k0 : 1 ≤ k) (k1 : k ≤ 12) (h1 : 1 ≤ n) (h4 : n ≤ 4) (ht : ar k = 1) (_ : 1 ≤ n) :
    Calls Try.prog 71 #[.pointer (some ⟨B, 0, none⟩), .int .i64 k, .int .i64 n] w fun e w' => (∃ g, e = .returned (.agg #[.int .i64 g.k, .int .i64 g.a, .int .i64 g.b, .int .i64 g.c]) ∧ GtBd g) ∧ CurAt w' B ∧ Own B w w' := by
  have Ha := Lib.hid (fun w => sar k w)
  rw [ht] at Ha
  clear ht
  have HR := Lib.hid (heap_alloc_new w (.cells #[.int .i64 0, .int .i64 0, .int .i64 0, .int .i64 0] 30))
  have Hc0 := Lib.hid (hcur.own (own_alloc (own_refl w.heap.size w) (.cells #[.int .i64 0, .int .i64 0, .int .i64 0, .int .i64 0] 30)) hB)
  have Hz := Lib.hid (show B < (w.alloc (.cells #[.int .i64 0, .int .i64 0, .int .i64 0, .int .i64 0] 30)).heap.size by simp; omega)
  go_enter Try.func71, Try.ntmps71
  go_wp2_with fail
  refine (perm_any B n _ Hc0.out Hz.out h1 h4).mono ?_
  rintro e w1 ⟨⟨v, l, rfl, hl, hbd, hd⟩, hc1, ho1⟩
  have hne : w.heap.size ≠ B := by omega
  have hR1 := own_blk ho1 hne HR.out
  have hs1 := ho1.size
  have Hc1 := Lib.hid hc1
  have Ho1 := Lib.hid (own_trans (own_alloc (own_refl B w) (.cells #[.int .i64 0, .int .i64 0, .int .i64 0, .int .i64 0] 30)) ho1)
  obtain ⟨a, cap, rfl, hcap, hr⟩ := hd
  obtain ⟨g, rfl, hg, hrow⟩ := hr (by omega)
  have hgl := hrow.lt
  obtain ⟨x, hx⟩ : ∃ x, l[0]? = some x := ⟨l[0], List.getElem?_eq_getElem (by omega)⟩
  have cx := IRow.cell hrow hx
  have bx := hbd x (List.mem_of_getElem? hx)
  obtain ⟨r0, r1, r2, r3⟩ := blk_cells hR1
  have fR := fun o => free_at hR1 o
  have hRl := lt_of_block hR1
  simp at hs1 hg
  have HR1 := Lib.hid hR1
  clear hrow hr hx hbd hc1 ho1 hR1 Hc0 Hz HR
  go_wp2_with fail
  refine (Ha.out _).mono ?_
  rintro e w2 ⟨rfl, rfl⟩
  go_wp2_with fail
  refine (Ha.out _).mono ?_
  rintro e w3 ⟨rfl, rfl⟩
  go_wp2_with fail
  obtain ⟨k0', k1', k2', k3'⟩ := blk_cells (alloc_blk (.cells #[.int .i64 ((Gt.mk k x 0 0)).k, .int .i64 ((Gt.mk k x 0 0)).a, .int .i64 ((Gt.mk k x 0 0)).b, .int .i64 ((Gt.mk k x 0 0)).c] 30) (set4_at (u0 := .int .i64 k) (u1 := .int .i64 x) (u2 := .int .i64 0) (u3 := .int .i64 0) HR1.out))
  have hgb : GtBd (Gt.mk k x 0 0) := by
    simp only [GtBd]
    omega
  refine bodyPost_ret (v := (.agg #[.int .i64 ((Gt.mk k x 0 0)).k, .int .i64 ((Gt.mk k x 0 0)).a, .int .i64 ((Gt.mk k x 0 0)).b, .int .i64 ((Gt.mk k x 0 0)).c])) (by simp only [results, Try.results71]; simp [go_sem, k0', k1', k2', k3']) rfl ⟨⟨(Gt.mk k x 0 0), rfl, hgb⟩, ?_, ?_⟩
  · refine Hc1.out.below (C := w.heap.size) ?_ hB
    have := Below.refl w1.heap.size w1
    go_grown
  · refine own_under Ho1.out (C := w.heap.size) ?_ (Nat.le_refl _)
    have := Below.refl w1.heap.size w1
    go_grown
set_option maxRecDepth 100000 in
set_option maxHeartbeats 3200000 in
theorem on2 (B n : Nat) (k : Int) (w : World) (hcur : CurAt w B) (hB : B < w.heap.size) (k0 : 1 ≤ k) (k1 : k ≤ 12) (h1 : 1 ≤ n) (h4 : n ≤ 4) (ht : ar k = 2) (hn : 2 ≤ n) :
    Calls Try.prog 71 #[.pointer (some ⟨B, 0, none⟩), .int .i64 k, .int .i64 n] w fun e w' => (∃ g, e = .returned (.agg #[.int .i64 g.k, .int .i64 g.a, .int .i64 g.b, .int .i64 g.c]) ∧ GtBd g) ∧ CurAt w' B ∧ Own B w w' := by
  have Ha := Lib.hid (fun w => sar k w)
  rw [ht] at Ha
  clear ht
  have HR := Lib.hid (heap_alloc_new w (.cells #[.int .i64 0, .int .i64 0, .int .i64 0, .int .i64 0] 30))
  have Hc0 := Lib.hid (hcur.own (own_alloc (own_refl w.heap.size w) (.cells #[.int .i64 0, .int .i64 0, .int .i64 0, .int .i64 0] 30)) hB)
  have Hz := Lib.hid (show B < (w.alloc (.cells #[.int .i64 0, .int .i64 0, .int .i64 0, .int .i64 0] 30)).heap.size by simp; omega)
  go_enter Try.func71, Try.ntmps71
  go_wp2_with fail
  refine (perm_any B n _ Hc0.out Hz.out h1 h4).mono ?_
  rintro e w1 ⟨⟨v, l, rfl, hl, hbd, hd⟩, hc1, ho1⟩
  have hne : w.heap.size ≠ B := by omega
  have hR1 := own_blk ho1 hne HR.out
  have hs1 := ho1.size
  have Hc1 := Lib.hid hc1
  have Ho1 := Lib.hid (own_trans (own_alloc (own_refl B w) (.cells #[.int .i64 0, .int .i64 0, .int .i64 0, .int .i64 0] 30)) ho1)
  obtain ⟨a, cap, rfl, hcap, hr⟩ := hd
  obtain ⟨g, rfl, hg, hrow⟩ := hr (by omega)
  have hgl := hrow.lt
  obtain ⟨x, hx⟩ : ∃ x, l[0]? = some x := ⟨l[0], List.getElem?_eq_getElem (by omega)⟩
  have cx := IRow.cell hrow hx
  have bx := hbd x (List.mem_of_getElem? hx)
  obtain ⟨r0, r1, r2, r3⟩ := blk_cells hR1
  have fR := fun o => free_at hR1 o
  have hRl := lt_of_block hR1
  simp at hs1 hg
  obtain ⟨y, hy⟩ : ∃ y, l[1]? = some y := ⟨l[1], List.getElem?_eq_getElem (by omega)⟩
  have cy := IRow.cell hrow hy
  have bdy := hbd y (List.mem_of_getElem? hy)
  clear hy
  have HR1 := Lib.hid hR1
  clear hrow hr hx hbd hc1 ho1 hR1 Hc0 Hz HR
  go_wp2_with fail
  refine (Ha.out _).mono ?_
  rintro e w2 ⟨rfl, rfl⟩
  go_wp2_with fail
  refine (Ha.out _).mono ?_
  rintro e w3 ⟨rfl, rfl⟩
  go_wp2_with fail
  obtain ⟨k0', k1', k2', k3'⟩ := blk_cells (alloc_blk (.cells #[.int .i64 ((Gt.mk k x y 0)).k, .int .i64 ((Gt.mk k x y 0)).a, .int .i64 ((Gt.mk k x y 0)).b, .int .i64 ((Gt.mk k x y 0)).c] 30) (set4_at (u0 := .int .i64 k) (u1 := .int .i64 x) (u2 := .int .i64 y) (u3 := .int .i64 0) HR1.out))
  have hgb : GtBd (Gt.mk k x y 0) := by
    simp only [GtBd]
    omega
  refine bodyPost_ret (v := (.agg #[.int .i64 ((Gt.mk k x y 0)).k, .int .i64 ((Gt.mk k x y 0)).a, .int .i64 ((Gt.mk k x y 0)).b, .int .i64 ((Gt.mk k x y 0)).c])) (by simp only [results, Try.results71]; simp [go_sem, k0', k1', k2', k3']) rfl ⟨⟨(Gt.mk k x y 0), rfl, hgb⟩, ?_, ?_⟩
  · refine Hc1.out.below (C := w.heap.size) ?_ hB
    have := Below.refl w1.heap.size w1
    go_grown
  · refine own_under Ho1.out (C := w.heap.size) ?_ (Nat.le_refl _)
    have := Below.refl w1.heap.size w1
    go_grown
set_option maxRecDepth 100000 in
set_option maxHeartbeats 3200000 in
theorem on3 (B n : Nat) (k : Int) (w : World) (hcur : CurAt w B) (hB : B < w.heap.size) (k0 : 1 ≤ k) (k1 : k ≤ 12) (h1 : 1 ≤ n) (h4 : n ≤ 4) (ht : ar k = 3) (hn : 3 ≤ n) :
    Calls Try.prog 71 #[.pointer (some ⟨B, 0, none⟩), .int .i64 k, .int .i64 n] w fun e w' => (∃ g, e = .returned (.agg #[.int .i64 g.k, .int .i64 g.a, .int .i64 g.b, .int .i64 g.c]) ∧ GtBd g) ∧ CurAt w' B ∧ Own B w w' := by
  have Ha := Lib.hid (fun w => sar k w)
  rw [ht] at Ha
  clear ht
  have HR := Lib.hid (heap_alloc_new w (.cells #[.int .i64 0, .int .i64 0, .int .i64 0, .int .i64 0] 30))
  have Hc0 := Lib.hid (hcur.own (own_alloc (own_refl w.heap.size w) (.cells #[.int .i64 0, .int .i64 0, .int .i64 0, .int .i64 0] 30)) hB)
  have Hz := Lib.hid (show B < (w.alloc (.cells #[.int .i64 0, .int .i64 0, .int .i64 0, .int .i64 0] 30)).heap.size by simp; omega)
  go_enter Try.func71, Try.ntmps71
  go_wp2_with fail
  refine (perm_any B n _ Hc0.out Hz.out h1 h4).mono ?_
  rintro e w1 ⟨⟨v, l, rfl, hl, hbd, hd⟩, hc1, ho1⟩
  have hne : w.heap.size ≠ B := by omega
  have hR1 := own_blk ho1 hne HR.out
  have hs1 := ho1.size
  have Hc1 := Lib.hid hc1
  have Ho1 := Lib.hid (own_trans (own_alloc (own_refl B w) (.cells #[.int .i64 0, .int .i64 0, .int .i64 0, .int .i64 0] 30)) ho1)
  obtain ⟨a, cap, rfl, hcap, hr⟩ := hd
  obtain ⟨g, rfl, hg, hrow⟩ := hr (by omega)
  have hgl := hrow.lt
  obtain ⟨x, hx⟩ : ∃ x, l[0]? = some x := ⟨l[0], List.getElem?_eq_getElem (by omega)⟩
  have cx := IRow.cell hrow hx
  have bx := hbd x (List.mem_of_getElem? hx)
  obtain ⟨r0, r1, r2, r3⟩ := blk_cells hR1
  have fR := fun o => free_at hR1 o
  have hRl := lt_of_block hR1
  simp at hs1 hg
  obtain ⟨y, hy⟩ : ∃ y, l[1]? = some y := ⟨l[1], List.getElem?_eq_getElem (by omega)⟩
  have cy := IRow.cell hrow hy
  have bdy := hbd y (List.mem_of_getElem? hy)
  clear hy
  obtain ⟨z, hz⟩ : ∃ z, l[2]? = some z := ⟨l[2], List.getElem?_eq_getElem (by omega)⟩
  have cz := IRow.cell hrow hz
  have bdz := hbd z (List.mem_of_getElem? hz)
  clear hz
  have HR1 := Lib.hid hR1
  clear hrow hr hx hbd hc1 ho1 hR1 Hc0 Hz HR
  go_wp2_with fail
  refine (Ha.out _).mono ?_
  rintro e w2 ⟨rfl, rfl⟩
  go_wp2_with fail
  refine (Ha.out _).mono ?_
  rintro e w3 ⟨rfl, rfl⟩
  go_wp2_with fail
  obtain ⟨k0', k1', k2', k3'⟩ := blk_cells (alloc_blk (.cells #[.int .i64 ((Gt.mk k x y z)).k, .int .i64 ((Gt.mk k x y z)).a, .int .i64 ((Gt.mk k x y z)).b, .int .i64 ((Gt.mk k x y z)).c] 30) (set4_at (u0 := .int .i64 k) (u1 := .int .i64 x) (u2 := .int .i64 y) (u3 := .int .i64 z) HR1.out))
  have hgb : GtBd (Gt.mk k x y z) := by
    simp only [GtBd]
    omega
  refine bodyPost_ret (v := (.agg #[.int .i64 ((Gt.mk k x y z)).k, .int .i64 ((Gt.mk k x y z)).a, .int .i64 ((Gt.mk k x y z)).b, .int .i64 ((Gt.mk k x y z)).c])) (by simp only [results, Try.results71]; simp [go_sem, k0', k1', k2', k3']) rfl ⟨⟨(Gt.mk k x y z), rfl, hgb⟩, ?_, ?_⟩
  · refine Hc1.out.below (C := w.heap.size) ?_ hB
    have := Below.refl w1.heap.size w1
    go_grown
  · refine own_under Ho1.out (C := w.heap.size) ?_ (Nat.le_refl _)
    have := Below.refl w1.heap.size w1
    go_grown
theorem ar_pos {k : Int} (h0 : 1 ≤ k) (h1 : k ≤ 12) : ar k = 1 ∨ ar k = 2 ∨ ar k = 3 := by
  unfold ar
  (repeat' split) <;> omega
theorem on_any (B n : Nat) (k : Int) (w : World) (hcur : CurAt w B) (hB : B < w.heap.size) (k0 : 1 ≤ k) (k1 : k ≤ 12) (h1 : 1 ≤ n) (h4 : n ≤ 4) (hn : ar k ≤ n) :
    Calls Try.prog 71 #[.pointer (some ⟨B, 0, none⟩), .int .i64 k, .int .i64 n] w fun e w' => (∃ g, e = .returned (.agg #[.int .i64 g.k, .int .i64 g.a, .int .i64 g.b, .int .i64 g.c]) ∧ GtBd g) ∧ CurAt w' B ∧ Own B w w' := by
  rcases ar_pos k0 k1 with h | h | h
  · exact on1 B n k w hcur hB k0 k1 h1 h4 h (by omega)
  · exact on2 B n k w hcur hB k0 k1 h1 h4 h (by omega)
  · exact on3 B n k w hcur hB k0 k1 h1 h4 h (by omega)
end Go.Proofs.Ytadimihfbpkilaa
namespace Go.Proofs.Ytadimihfbpkilaa
theorem up_zero : ∀ k : Nat, upB k .zero = true ∧ rootN k .zero = .zero
  | 0 => ⟨by first | rfl | decide, rfl⟩
  | k + 1 => by
    obtain ⟨h1, h2⟩ := up_zero k
    have hr : Zw.zero.root = .zero := by decide
    constructor
    · unfold upB; rw [hr, h1]; decide
    · show rootN k Zw.zero.root = _; rw [hr]; exact h2
theorem dadd_zero {x : Dw} (h : x.ok) : dAddB .zero x = true ∧ dAddV .zero x = x := by
  have hz : Dw.zero.ok := by decide
  have he := h.2.1
  have ht : topE .zero x = x.e := by
    unfold topE
    show (if x.e < 0 then (0 : Int) else x.e) = x.e
    rw [if_neg (by omega)]
  have hA : numA .zero x = .zero := by unfold numA; exact (up_zero _).2
  have hB : numB .zero x = x.n := by unfold numB; rw [ht, Int.sub_self]; rfl
  have hs : Zw.zero.add x.n = x.n := by
    obtain ⟨⟨a, b, c, d⟩, e⟩ := x
    simp [Zw.add, Zw.zero]
  have hn := newV_self h
  have hb : dAddB .zero x = true := dAddB_iff.2 ⟨hz, h, by show upB _ Zw.zero = true; exact (up_zero _).1, by rw [ht, Int.sub_self]; show upB 0 x.n = true; first | rfl | (unfold upB; exact decide_eq_true h.1) | simp [upB, h.1], by rw [hA, hB]; exact addB_iff.2 ⟨by decide, h.1, by rw [hs]; exact h.1⟩, by rw [hA, hB, hs, ht]; exact hn.1⟩
  exact ⟨hb, by rw [dAddV_of hb, hA, hB, hs, ht]; exact hn.2⟩
theorem mrow_rest : ∀ (r : List Dw) (s : Dw) (n : Nat), mrow s (r.zip (List.replicate n .zero)) = some s
  | [], s, n => by simp [mrow]
  | x :: r, s, 0 => by simp [mrow]
  | x :: r, s, n + 1 => by
    rw [List.replicate_succ, List.zip_cons_cons, mrow, if_pos (.inr rfl)]
    exact mrow_rest r s n
theorem mrow_basis : ∀ (r : List Dw) (j : Nat), (∀ x ∈ r, x.ok) → j < r.length → mrow .zero (r.zip ((List.replicate r.length .zero).set j oneD)) = some (r.getD j .zero)
  | [], j, _, h => by simp at h
  | x :: r, 0, hr, _ => by
    rw [List.length_cons, List.replicate_succ, List.set_cons_zero, List.zip_cons_cons, mrow]
    have hx := hr x List.mem_cons_self
    by_cases hz : x = .zero
    · rw [if_pos (.inl hz), mrow_rest, hz]; rfl
    · rw [if_neg (show ¬(x = .zero ∨ oneD = .zero) from fun e => e.elim hz (fun e => absurd e (by decide)))]
      obtain ⟨m1, m2⟩ := dmul_one hx
      obtain ⟨a1, a2⟩ := dadd_zero hx
      rw [m2, m1, a1, a2, mrow_rest]; rfl
  | x :: r, j + 1, hr, h => by
    rw [List.length_cons, List.replicate_succ, List.set_cons_succ, List.zip_cons_cons, mrow, if_pos (.inr rfl), mrow_basis r j (fun y hy => hr y (List.mem_cons_of_mem _ hy)) (by simpa using h)]
    rfl
theorem qc_pow {n : Nat} (h : 0 < qc n) : 1 ≤ qc n ∧ qc n ≤ 4 ∧ n = 2 ^ (qc n).toNat := by
  have hl := qc_len h
  have : n = 2 ∨ n = 4 ∨ n = 8 ∨ n = 16 := by
    unfold qc at h
    (repeat' split at h) <;> omega
  rcases this with rfl | rfl | rfl | rfl <;> decide
theorem basis_eq {n j : Nat} (h : 0 < qc n) (hj : j < n) : basisL (qc n) (j : Int) = (List.replicate n .zero).set j oneD := by
  obtain ⟨h1, h4, hp⟩ := qc_pow h
  unfold basisL
  rw [if_pos ⟨h1, h4, by omega, by have : ((2 ^ (qc n).toNat : Nat) : Int) = 2 ^ (qc n).toNat := by simp
                                   omega⟩, ← hp, Int.toNat_natCast]
theorem basis_st {n j : Nat} (h : 0 < qc n) (hj : j < n) : stB (basisL (qc n) (j : Int)) = true ∧ (basisL (qc n) (j : Int)).length = n := by
  rw [basis_eq h hj]
  refine ⟨stB_iff.2 ⟨fun x hx => ?_, by simpa using h⟩, by simp⟩
  rcases List.mem_or_eq_of_mem_set hx with hx | rfl
  · rw [(List.mem_replicate.1 hx).2]; decide
  · exact oneD_ok
theorem app_basis {M : List (List Dw)} (h : mtB M = true) {j : Nat} (hj : j < M.length) : appB M (basisL (qc M.length) (j : Int)) = true ∧ appL M (basisL (qc M.length) (j : Int)) = col M j := by
  have hq := mtB_qc h
  obtain ⟨s1, s2⟩ := basis_st hq hj
  have hrow : ∀ r ∈ M, rowO r (basisL (qc M.length) (j : Int)) = some (r.getD j .zero) := fun r hr => by
    obtain ⟨hl, hs⟩ := (mtB_iff.1 h).2 r hr
    rw [basis_eq hq hj]
    unfold rowO
    rw [← hl]
    exact mrow_basis r j (stB_iff.1 hs).1 (by omega)
  have hb : appB M (basisL (qc M.length) (j : Int)) = true := by
    unfold appB
    rw [h, s1, s2]
    simp only [Bool.true_and, decide_true, List.all_eq_true]
    intro r hr
    unfold rowB
    rw [hrow r hr]; rfl
  refine ⟨hb, ?_⟩
  unfold appL
  rw [if_pos hb]
  unfold col
  refine List.map_congr_left fun r hr => ?_
  unfold rowV
  rw [hrow r hr]; rfl
theorem appL_eb (M : List (List Dw)) (v : List Dw) : Eb (appL M v) := by
  unfold appL
  split
  · intro x hx
    obtain ⟨r, _, rfl⟩ := List.mem_map.1 hx
    obtain ⟨_, h0, h1, _⟩ := rowV_ok r v
    omega
  · intro x hx; cases hx
/-- What the law asks. -/
theorem both_law {A B : List (List Dw)} (h : mulMB A B = true) {j : Nat} (hj : j < (mulM A B).length) :
    appB B (basisL (qc (mulM A B).length) (j : Int)) = true ∧ appB A (appL B (basisL (qc (mulM A B).length) (j : Int))) = true ∧ appB (mulM A B) (basisL (qc (mulM A B).length) (j : Int)) = true ∧
      appL A (appL B (basisL (qc (mulM A B).length) (j : Int))) = appL (mulM A B) (basisL (qc (mulM A B).length) (j : Int)) := by
  obtain ⟨hA, hB, hl, hall⟩ := mul_parts h
  have hP := mulM_mt h
  have hlen : (mulM A B).length = A.length := by rw [mulM_mk h, mkM_len]
  obtain ⟨p1, p2⟩ := app_basis hP hj
  rw [hlen] at hj
  have hq : (mulM A B).length = B.length := by omega
  obtain ⟨b1, b2⟩ := app_basis hB (j := j) (by omega)
  rw [p1, p2, hq, b1, b2, hall j (by omega)]
  refine ⟨rfl, rfl, rfl, ?_⟩
  unfold appL
  rw [if_pos (hall j (by omega)), mulM_mk h]
  conv => rhs; rw [col_at, mkM_len]
  conv => lhs; rw [← list_range A []]
  rw [List.map_map]
  refine List.map_congr_left fun i hi => ?_
  rw [mkM_at (List.mem_range.1 hi) hj]
  rfl
end Go.Proofs.Ytadimihfbpkilaa
namespace Go.Proofs.Ytadimihfbpkilaa
theorem inv_all : allP.all (fun p => permB (invP p) && decide ((invP p).length = p.length) && decide (cmpP p (invP p) = upI p.length) && decide (cmpP (invP p) p = upI p.length) && decide (cmpP (upI p.length) p = p)) = true := by decide +kernel
theorem cmp_all : allP.all (fun p => allP.all fun q => !decide (p.length = q.length) || (permB (cmpP p q) && decide ((cmpP p q).length = p.length) && (List.range (2 ^ p.length)).all fun i => decide (pix q (pix p (i : Int)) = pix (cmpP p q) (i : Int)))) = true := by decide +kernel
theorem inv_facts {p : List Int} (h : permB p = true) : permB (invP p) = true ∧ (invP p).length = p.length ∧ cmpP p (invP p) = upI p.length ∧ cmpP (invP p) p = upI p.length ∧ cmpP (upI p.length) p = p := by
  have h1 := List.all_eq_true.1 inv_all p (perm_mem h)
  simpa [and_assoc] using h1
theorem cmp_facts {p q : List Int} (h : permB p = true) (k : permB q = true) (hl : p.length = q.length) : permB (cmpP p q) = true ∧ (cmpP p q).length = p.length ∧ ∀ i : Nat, i < 2 ^ p.length → pix q (pix p (i : Int)) = pix (cmpP p q) (i : Int) := by
  have h1 := List.all_eq_true.1 (List.all_eq_true.1 cmp_all p (perm_mem h)) q (perm_mem k)
  rw [decide_eq_true hl] at h1
  simp only [Bool.not_true, Bool.false_or, Bool.and_eq_true, decide_eq_true_eq, List.all_eq_true, List.mem_range] at h1
  exact ⟨h1.1.1, h1.1.2, h1.2⟩
theorem cmpP_nil {p q : List Int} (h : (cmpP p q).length ≠ 0) : permB p = true ∧ permB q = true ∧ p.length = q.length := by
  unfold cmpP at h
  split at h
  · rename_i h1; simpa [and_assoc] using h1
  · exact absurd rfl h
theorem cmpP_zero {p q : List Int} (h : (cmpP p q).length = 0) : cmpP p q = [] := List.eq_nil_of_length_eq_zero h
theorem perm_nil : permB [] = false := by decide
theorem pix_nil (i : Int) : pix [] i = 0 := by unfold pix pixB; rw [perm_nil]; rfl
theorem invP_len (p : List Int) : (invP p).length ≤ p.length := by
  unfold invP
  split
  · rw [invS_len]; exact Nat.le_refl _
  · exact Nat.zero_le _
theorem cmpP_len (p q : List Int) : (cmpP p q).length ≤ p.length := by
  unfold cmpP
  split
  · rw [List.length_map]; exact Nat.le_refl _
  · exact Nat.zero_le _
theorem pmM_amps (p : List Int) : (pmM p).length ≤ 16 ∧ amps (pmM p) ≤ 256 := by
  unfold pmM
  split
  · rename_i h
    have hl := (permB_iff.1 h).2
    have h16 : 2 ^ p.length ≤ 16 := by rcases (show p.length = 1 ∨ p.length = 2 ∨ p.length = 3 ∨ p.length = 4 by omega) with e | e | e | e <;> rw [e] <;> decide
    have hL : (pmL p).length = 2 ^ p.length := by rw [pmL, List.length_map, List.length_range]
    have hc : (colsM (pmL p)).length = 2 ^ p.length := by rw [colsM_len, hL]
    have hr := amps_rect (n := 2 ^ p.length) (M := colsM (pmL p)) fun r hr => by
      obtain ⟨k, -, rfl⟩ := List.mem_map.1 hr
      rw [col_len, hL]
    refine ⟨by omega, ?_⟩
    rw [hr, hc]
    exact Nat.mul_le_mul h16 h16
  · exact ⟨by decide, by decide⟩
end Go.Proofs.Ytadimihfbpkilaa
namespace Go.Proofs.Ytadimihfbpkilaa
open Go.RowKit
theorem permB_no {p : List Int} {j : Nat} (hj : j < p.length) (h : plB p j = false) : permB p = false := by
  cases hp : permB p with
  | false => rfl
  | true => rw [(permB_iff.1 hp).1 j hj] at h; cases h
theorem permB_len {p : List Int} (h : ∀ i, i < p.length → plB p i = true) : permB p = decide (1 ≤ (p.length : Int) ∧ (p.length : Int) ≤ 4) := by
  rw [Bool.eq_iff_iff, permB_iff, decide_eq_true_eq]
  exact ⟨fun k => by omega, fun k => ⟨h, by omega, by omega⟩⟩
/-- The elements are machine integers. -/
def Ei (l : List Int) : Prop := ∀ x ∈ l, -9223372036854775808 ≤ x ∧ x ≤ 9223372036854775807
attribute [local irreducible] World.cell?
set_option maxRecDepth 100000 in
set_option maxHeartbeats 1600000 in
theorem sidP (n : Int) (w : World) :
    Calls Try.prog 86 #[.int .i64 n] w fun e w' => ∃ v, e = .returned v ∧ intE.Sl w' w.heap.size v (idP n) ∧ Below w.heap.size w w' := by
  by_cases h : 1 ≤ n ∧ n ≤ 4
  · obtain ⟨m, rfl⟩ : ∃ m : Nat, n = m := ⟨n.toNat, by omega⟩
    rw [show idP (m : Int) = upL m from by unfold idP; rw [if_pos h]; rfl]
    exact sidP_yes m w (by omega) (by omega)
  · rw [show idP n = [] from if_neg h]
    have H1 := Lib.hid (fun w => lin_any n 1 4 false w (decide_eq_false h))
    clear h
    go_enter Try.func86, Try.ntmps86
    go_wp2_with fail
    go_loopg [3, 4] 0 (fun n out i wr => n = 0 ∧ i = .int .i64 0 ∧ out = .slice (some ⟨w.heap.size, 0, none⟩) 0 0 ∧ Hid (Below w.heap.size w wr))
    case atStart => exact ⟨rfl, rfl, rfl, Lib.hid (by go_grown)⟩
    case round =>
      obtain ⟨rfl, rfl, rfl, Hb⟩ := hrel
      go_wp2_with fail
      refine (H1.out _).mono ?_
      rintro e w2 ⟨rfl, rfl⟩
      go_wp2_with fail
      go_ret
      exact ⟨_, rfl, Enc.Sl.nil, Hb.out⟩
theorem cmp_step {p q : List Int} {j : Nat} {x : Int} (hx : p[j]? = some x) : intE.flat ((p.map (atI q)).take j) ++ [.int .i64 (atI q x)] = intE.flat ((p.map (atI q)).take (j + 1)) := by
  rw [List.take_add_one, List.getElem?_map, hx, intE.flat_app]
  rfl
theorem inv_len0 {p : List Int} (h : permB p = true) : invP p = invS p p.length := if_pos h
end Go.Proofs.Ytadimihfbpkilaa
namespace Go.Proofs.Ytadimihfbpkilaa
open Go.RowKit
theorem pixS_lt {p : List Int} (h : permB p = true) (i : Nat) : ∀ j, j ≤ p.length → pixS p i j < 16
  | 0, _ => by show 0 < 16; decide
  | j + 1, hj => by
    have h1 := pixS_lt h i j (by omega)
    rw [pixS]
    have hx : (p.getD j 0).toNat < 4 := by
      have hl := (permB_iff.1 h).2.2
      have h2 := permB_at h (i := j) (x := p[j]'(by omega)) (List.getElem?_eq_getElem _)
      rw [List.getD_eq_getElem?_getD, List.getElem?_eq_getElem (by omega)]
      simp only [Option.getD_some]
      omega
    have h3 : (i >>> j &&& 1) <<< (p.getD j 0).toNat < 2 ^ 4 := by
      have h4 : i >>> j &&& 1 ≤ 1 := Nat.and_le_right
      rw [Nat.shiftLeft_eq]
      have h5 : 2 ^ (p.getD j 0).toNat ≤ 2 ^ 3 := Nat.pow_le_pow_right (by decide) (by omega)
      have h6 := Nat.mul_le_mul h4 h5
      omega
    exact Nat.or_lt_two_pow (n := 4) h1 h3
theorem pix_no {p : List Int} {i : Int} (h : ¬ (0 ≤ i ∧ i ≤ 2 ^ p.length - 1)) : pix p i = 0 := by
  unfold pix pixB
  rw [decide_eq_false h, Bool.and_false]
  rfl
theorem pix_yes {p : List Int} {m : Nat} (hP : permB p = true) (h : (m : Int) ≤ 2 ^ p.length - 1) : pix p (m : Int) = ((pixS p m p.length : Nat) : Int) := by
  unfold pix pixB
  rw [hP, decide_eq_true ⟨by omega, h⟩]
  rfl
theorem pix_rg {p : List Int} (i : Int) : 0 ≤ pix p i ∧ pix p i < 16 := by
  unfold pix pixB
  split
  · rename_i h
    rw [Bool.and_eq_true] at h
    have := pixS_lt h.1 i.toNat p.length (Nat.le_refl _)
    omega
  · omega
theorem pix_key : ∀ o, o < 16 → ∀ m, m < 16 → ∀ j, j < 4 → ∀ k, k < 4 → bits .or .i64 ((o : Nat) : Int) (wrap64 (bits .and .i64 (((m : Nat) : Int) / 2 ^ j) 1 * 2 ^ k)) = ((o ||| ((m >>> j &&& 1) <<< k) : Nat) : Int) := by decide +kernel
theorem pix_step {o q m j k : Nat} (h : q = o ||| ((m >>> j &&& 1) <<< k)) (ho : o < 16) (hm : m < 16) (hj : j < 4) (hk : k < 4) : Value.int .i64 (bits .or .i64 (o : Int) (wrap64 (bits .and .i64 ((m : Int) / 2 ^ j) 1 * 2 ^ k))) = Value.int .i64 (q : Int) := by
  rw [h, pix_key o ho m hm j hj k hk]
attribute [local irreducible] World.cell?
end Go.Proofs.Ytadimihfbpkilaa
