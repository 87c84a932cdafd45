/- InnerProduct of the model. -/
import Derived.Test.YtggjbpgibdpflaaDsA
import Derived.Test.YtggjbpgibdpflaaDwB
namespace Go.Proofs.Ytggjbpgibdpflaa
open Go.RowKit
theorem mul_eb (x y : Dw) : -9223372036854775808 ≤ (dMulV x y).e ∧ (dMulV x y).e ≤ 9223372036854775807 := by
  cases h : dMulB x y
  · rw [show dMulV x y = .zero from if_neg (by rw [h]; decide)]; exact ⟨by decide, by decide⟩
  · exact ok_eb (dMulV_ok h)
theorem inn_step {s : Dw} {l : List (Dw × Dw)} {j : Nat} {p : Dw × Dw} (hp : l[j]? = some p) :
    inn s (l.drop j) = if dMulB (dConjV p.1) p.2 && dAddB s (dMulV (dConjV p.1) p.2) then inn (dAddV s (dMulV (dConjV p.1) p.2)) (l.drop (j + 1)) else none := by
  have hj : j < l.length := by
    rcases Nat.lt_or_ge j l.length with h' | h'
    · exact h'
    · rw [List.getElem?_eq_none h'] at hp; cases hp
  rw [List.getElem?_eq_getElem hj] at hp
  injection hp with hp
  rw [← List.getElem_cons_drop hj, hp]
  rfl
theorem zero_ok : Dw.zero.ok := by decide
attribute [local irreducible] World.cell?
set_option maxRecDepth 100000 in
set_option maxHeartbeats 1600000 in
theorem sinnS_no0 (B C : Nat) (v u : Value) (a b : List Dw) (w : World) (hv : DSl w B v a) (hu : DSl w C u b) (hm : a.length ≤ 1048576) (hm' : b.length ≤ 1048576) (ha : stB a = false) :
    Calls Try.prog 56 #[v, u] w fun e w' => e = .returned (.tuple #[(.agg #[.int .i64 Dw.zero.n.a, .int .i64 Dw.zero.n.b, .int .i64 Dw.zero.n.c, .int .i64 Dw.zero.n.d, .int .i64 Dw.zero.e]), .bool false]) ∧ Below w.heap.size w w' := by
  have H1 := Lib.hid (fun W (h : DSl W B v a) => svalidSt B v a W h hm)
  have H2 := Lib.hid (fun W (h : DSl W C u b) => svalidSt C u b W h hm')
  have Hv := Lib.hid (hv.below ((Below.refl _ _).alloc (Nat.le_refl _) (.cells #[.int .i64 0, .int .i64 0, .int .i64 0, .int .i64 0, .int .i64 0] 60)))
  have Hu := Lib.hid (hu.below ((Below.refl _ _).alloc (Nat.le_refl _) (.cells #[.int .i64 0, .int .i64 0, .int .i64 0, .int .i64 0, .int .i64 0] 60)))
  have Hr0 := Lib.hid (heap_alloc_new w (.cells #[.int .i64 0, .int .i64 0, .int .i64 0, .int .i64 0, .int .i64 0] 60))
  rw [ha] at H1
  skip
  obtain ⟨p, cap, rfl, hcap, -⟩ := hv
  obtain ⟨p', cap', rfl, hcap', -⟩ := hu
  go_enter Try.func56, Try.ntmps56
  go_wp2_with fail
  refine (H1.out _ Hv.out).mono ?_
  rintro e w1 ⟨rfl, hb1⟩
  have Hr1 := Lib.hid (below_blk hb1 (lt_of_block Hr0.out) Hr0.out)
  have Hb1 := Lib.hid (below_up (B := w.heap.size) (w := w) (by go_grown) hb1 (by simp))
  have Hu1 := Lib.hid (Hu.out.below hb1)
  clear hb1
  obtain ⟨e0, e1, e2, e3, e4⟩ := blk_cells5 Hr1.out
  have f1 := fun o => free_at Hr1.out o
  have hzz := lt_of_block Hr1.out
  go_wp2_with fail
  obtain ⟨k0, k1, k2, k3, k4⟩ := blk_cells5 (set5_at (u0 := .int .i64 0) (u1 := .int .i64 0) (u2 := .int .i64 0) (u3 := .int .i64 0) (u4 := .int .i64 0) Hr1.out)
  refine bodyPost_ret (v := .tuple #[(.agg #[.int .i64 Dw.zero.n.a, .int .i64 Dw.zero.n.b, .int .i64 Dw.zero.n.c, .int .i64 Dw.zero.n.d, .int .i64 Dw.zero.e]), .bool false]) (by simp only [results, Try.results56]; simp [go_sem, k0, k1, k2, k3, k4, Dw.zero, Zw.zero]) rfl ⟨rfl, ?_⟩
  have := Hb1.out
  go_grown
set_option maxRecDepth 100000 in
set_option maxHeartbeats 1600000 in
theorem sinnS_no1 (B C : Nat) (v u : Value) (a b : List Dw) (w : World) (hv : DSl w B v a) (hu : DSl w C u b) (hm : a.length ≤ 1048576) (hm' : b.length ≤ 1048576) (ha : stB a = true) (hb : stB b = false) :
    Calls Try.prog 56 #[v, u] w fun e w' => e = .returned (.tuple #[(.agg #[.int .i64 Dw.zero.n.a, .int .i64 Dw.zero.n.b, .int .i64 Dw.zero.n.c, .int .i64 Dw.zero.n.d, .int .i64 Dw.zero.e]), .bool false]) ∧ Below w.heap.size w w' := by
  have H1 := Lib.hid (fun W (h : DSl W B v a) => svalidSt B v a W h hm)
  have H2 := Lib.hid (fun W (h : DSl W C u b) => svalidSt C u b W h hm')
  have Hv := Lib.hid (hv.below ((Below.refl _ _).alloc (Nat.le_refl _) (.cells #[.int .i64 0, .int .i64 0, .int .i64 0, .int .i64 0, .int .i64 0] 60)))
  have Hu := Lib.hid (hu.below ((Below.refl _ _).alloc (Nat.le_refl _) (.cells #[.int .i64 0, .int .i64 0, .int .i64 0, .int .i64 0, .int .i64 0] 60)))
  have Hr0 := Lib.hid (heap_alloc_new w (.cells #[.int .i64 0, .int .i64 0, .int .i64 0, .int .i64 0, .int .i64 0] 60))
  rw [ha] at H1
  rw [hb] at H2
  obtain ⟨p, cap, rfl, hcap, -⟩ := hv
  obtain ⟨p', cap', rfl, hcap', -⟩ := hu
  go_enter Try.func56, Try.ntmps56
  go_wp2_with fail
  refine (H1.out _ Hv.out).mono ?_
  rintro e w1 ⟨rfl, hb1⟩
  have Hr1 := Lib.hid (below_blk hb1 (lt_of_block Hr0.out) Hr0.out)
  have Hb1 := Lib.hid (below_up (B := w.heap.size) (w := w) (by go_grown) hb1 (by simp))
  have Hu1 := Lib.hid (Hu.out.below hb1)
  clear hb1
  go_wp2_with fail
  refine (H2.out _ Hu1.out).mono ?_
  rintro e w2 ⟨rfl, hb2⟩
  have Hr1 := Lib.hid (below_blk hb2 (lt_of_block Hr1.out) Hr1.out)
  have Hb1 := Lib.hid (below_nx Hb1.out hb2)
  clear hb2
  obtain ⟨e0, e1, e2, e3, e4⟩ := blk_cells5 Hr1.out
  have f1 := fun o => free_at Hr1.out o
  have hzz := lt_of_block Hr1.out
  go_wp2_with fail
  obtain ⟨k0, k1, k2, k3, k4⟩ := blk_cells5 (set5_at (u0 := .int .i64 0) (u1 := .int .i64 0) (u2 := .int .i64 0) (u3 := .int .i64 0) (u4 := .int .i64 0) Hr1.out)
  refine bodyPost_ret (v := .tuple #[(.agg #[.int .i64 Dw.zero.n.a, .int .i64 Dw.zero.n.b, .int .i64 Dw.zero.n.c, .int .i64 Dw.zero.n.d, .int .i64 Dw.zero.e]), .bool false]) (by simp only [results, Try.results56]; simp [go_sem, k0, k1, k2, k3, k4, Dw.zero, Zw.zero]) rfl ⟨rfl, ?_⟩
  have := Hb1.out
  go_grown
set_option maxRecDepth 100000 in
set_option maxHeartbeats 1600000 in
theorem sinnS_no2 (B C : Nat) (v u : Value) (a b : List Dw) (w : World) (hv : DSl w B v a) (hu : DSl w C u b) (hm : a.length ≤ 1048576) (hm' : b.length ≤ 1048576) (ha : stB a = true) (hb : stB b = true) (hne : a.length ≠ b.length) :
    Calls Try.prog 56 #[v, u] w fun e w' => e = .returned (.tuple #[(.agg #[.int .i64 Dw.zero.n.a, .int .i64 Dw.zero.n.b, .int .i64 Dw.zero.n.c, .int .i64 Dw.zero.n.d, .int .i64 Dw.zero.e]), .bool false]) ∧ Below w.heap.size w w' := by
  have H1 := Lib.hid (fun W (h : DSl W B v a) => svalidSt B v a W h hm)
  have H2 := Lib.hid (fun W (h : DSl W C u b) => svalidSt C u b W h hm')
  have Hv := Lib.hid (hv.below ((Below.refl _ _).alloc (Nat.le_refl _) (.cells #[.int .i64 0, .int .i64 0, .int .i64 0, .int .i64 0, .int .i64 0] 60)))
  have Hu := Lib.hid (hu.below ((Below.refl _ _).alloc (Nat.le_refl _) (.cells #[.int .i64 0, .int .i64 0, .int .i64 0, .int .i64 0, .int .i64 0] 60)))
  have Hr0 := Lib.hid (heap_alloc_new w (.cells #[.int .i64 0, .int .i64 0, .int .i64 0, .int .i64 0, .int .i64 0] 60))
  rw [ha] at H1
  rw [hb] at H2
  obtain ⟨p, cap, rfl, hcap, -⟩ := hv
  obtain ⟨p', cap', rfl, hcap', -⟩ := hu
  have hd : ((a.length : Int) == b.length) = false := by simp; omega
  have hd2 : ((a.length : Int) != b.length) = true := by simp; omega
  go_enter Try.func56, Try.ntmps56
  go_wp2_with fail
  refine (H1.out _ Hv.out).mono ?_
  rintro e w1 ⟨rfl, hb1⟩
  have Hr1 := Lib.hid (below_blk hb1 (lt_of_block Hr0.out) Hr0.out)
  have Hb1 := Lib.hid (below_up (B := w.heap.size) (w := w) (by go_grown) hb1 (by simp))
  have Hu1 := Lib.hid (Hu.out.below hb1)
  clear hb1
  go_wp2_with fail
  refine (H2.out _ Hu1.out).mono ?_
  rintro e w2 ⟨rfl, hb2⟩
  have Hr1 := Lib.hid (below_blk hb2 (lt_of_block Hr1.out) Hr1.out)
  have Hb1 := Lib.hid (below_nx Hb1.out hb2)
  clear hb2
  obtain ⟨e0, e1, e2, e3, e4⟩ := blk_cells5 Hr1.out
  have f1 := fun o => free_at Hr1.out o
  have hzz := lt_of_block Hr1.out
  go_wp2_with fail
  obtain ⟨k0, k1, k2, k3, k4⟩ := blk_cells5 (set5_at (u0 := .int .i64 0) (u1 := .int .i64 0) (u2 := .int .i64 0) (u3 := .int .i64 0) (u4 := .int .i64 0) Hr1.out)
  refine bodyPost_ret (v := .tuple #[(.agg #[.int .i64 Dw.zero.n.a, .int .i64 Dw.zero.n.b, .int .i64 Dw.zero.n.c, .int .i64 Dw.zero.n.d, .int .i64 Dw.zero.e]), .bool false]) (by simp only [results, Try.results56]; simp [go_sem, k0, k1, k2, k3, k4, Dw.zero, Zw.zero]) rfl ⟨rfl, ?_⟩
  have := Hb1.out
  go_grown
set_option maxRecDepth 100000 in
set_option maxHeartbeats 6400000 in
theorem sinnS_yes (B C : Nat) (v u : Value) (a b : List Dw) (w : World) (hv : DSl w B v a) (hu : DSl w C u b) (ha : stB a = true) (hb : stB b = true) (hl : a.length = b.length) :
    Calls Try.prog 56 #[v, u] w fun e w' => e = .returned (.tuple #[(.agg #[.int .i64 (innV a b).n.a, .int .i64 (innV a b).n.b, .int .i64 (innV a b).n.c, .int .i64 (innV a b).n.d, .int .i64 (innV a b).e]), .bool (innB a b)]) ∧ Below w.heap.size w w' := by
  have hlen := stB_len hb
  have H1 := Lib.hid (fun W (h : DSl W B v a) => svalidSt B v a W h (by omega))
  have H2 := Lib.hid (fun W (h : DSl W C u b) => svalidSt C u b W h (by omega))
  have Hv := Lib.hid (hv.below ((Below.refl _ _).alloc (Nat.le_refl _) (.cells #[.int .i64 0, .int .i64 0, .int .i64 0, .int .i64 0, .int .i64 0] 60)))
  have Hu := Lib.hid (hu.below ((Below.refl _ _).alloc (Nat.le_refl _) (.cells #[.int .i64 0, .int .i64 0, .int .i64 0, .int .i64 0, .int .i64 0] 60)))
  have Hr0 := Lib.hid (heap_alloc_new w (.cells #[.int .i64 0, .int .i64 0, .int .i64 0, .int .i64 0, .int .i64 0] 60))
  have hO : innO a b = inn .zero (a.zip b) := by unfold innO; rw [ha, hb, decide_eq_true hl]; rfl
  have hV : innV a b = (innO a b).getD .zero := rfl
  have hB : innB a b = (innO a b).isSome := rfl
  generalize innV a b = V at *
  generalize innB a b = T at *
  rw [hO] at hV hB
  have HV := Lib.hid hV
  have HT := Lib.hid hB
  rw [ha] at H1
  rw [hb] at H2
  clear hO hV hB ha hb
  obtain ⟨p, cap, rfl, hcap, hr⟩ := hv
  obtain ⟨p', cap', rfl, hcap', hr'⟩ := hu
  rw [hl] at hr H1 Hv hcap ⊢
  have Hr := Lib.hid hr
  have Hr' := Lib.hid hr'
  clear hr hr'
  have hd : ((b.length : Int) == b.length) = true := by simp
  have hd2 : ((b.length : Int) != b.length) = false := by simp
  go_enter Try.func56, Try.ntmps56
  go_wp2_with fail
  refine (H1.out _ Hv.out).mono ?_
  rintro e w1 ⟨rfl, hb1⟩
  have Hr1 := Lib.hid (below_blk hb1 (lt_of_block Hr0.out) Hr0.out)
  have Hb1 := Lib.hid (below_up (B := w.heap.size) (w := w) (by go_grown) hb1 (by simp))
  have Hu1 := Lib.hid (Hu.out.below hb1)
  clear hb1
  go_wp2_with fail
  refine (H2.out _ Hu1.out).mono ?_
  rintro e w2 ⟨rfl, hb2⟩
  have Hr2 := Lib.hid (below_blk hb2 (lt_of_block Hr1.out) Hr1.out)
  have Hb2 := Lib.hid (below_nx Hb1.out hb2)
  have hs2 := Hb2.out.size
  have hz2 := lt_of_block Hr2.out
  clear hb2 Hb1 Hr1
  go_wp2_with fail
  go_loopg [7] b.length (fun k i wr => ∃ (j : Nat) (s : Dw), k = b.length - j ∧ j ≤ b.length ∧ i = .int .i64 j ∧ Hid (inn s ((a.zip b).drop j) = inn .zero (a.zip b)) ∧ Hid s.ok ∧ Hid (wr.heap[w2.heap.size]? = some (.cells #[.int .i64 s.n.a, .int .i64 s.n.b, .int .i64 s.n.c, .int .i64 s.n.d, .int .i64 s.e] 60)) ∧ Hid (wr.heap[w.heap.size]? = some (.cells #[.int .i64 0, .int .i64 0, .int .i64 0, .int .i64 0, .int .i64 0] 60)) ∧ Hid (Below w.heap.size w wr))
  case atStart => exact ⟨0, .zero, rfl, Nat.zero_le _, rfl, Lib.hid rfl, Lib.hid zero_ok, Lib.hid (heap_alloc_new w2 (.cells #[.int .i64 0, .int .i64 0, .int .i64 0, .int .i64 0, .int .i64 0] 60)), Lib.hid (alloc_blk (.cells #[.int .i64 0, .int .i64 0, .int .i64 0, .int .i64 0, .int .i64 0] 60) Hr2.out), Hb2.out.alloc hs2 _⟩
  case round =>
    obtain ⟨j, s, rfl, hj, rfl, HI, Hs, HS, HR, Hb⟩ := hrel
    by_cases hlt : j < b.length
    · obtain ⟨g, rfl, _, hrow⟩ := Hr.out (by omega)
      obtain ⟨g', rfl, _, hrow'⟩ := Hr'.out (by omega)
      obtain ⟨x, hx⟩ : ∃ x, a[j]? = some x := ⟨a[j], List.getElem?_eq_getElem (by omega)⟩
      obtain ⟨y, hy⟩ : ∃ y, b[j]? = some y := ⟨b[j], List.getElem?_eq_getElem hlt⟩
      have r1 := hrow.below Hb.out hrow.lt
      have r2 := hrow'.below Hb.out hrow'.lt
      obtain ⟨c0, c1, c2, c3, c4⟩ := r1.cells hx
      obtain ⟨d0, d1, d2, d3, d4⟩ := r2.cells hy
      have hgl := r1.lt
      have hgl' := r2.lt
      have hsl := lt_of_block HS.out
      have hrl := lt_of_block HR.out
      have Hc := Lib.hid (sconjD_any x)
      have Hm := Lib.hid (smulD_any (dConjV x) y)
      have hez := mul_eb (dConjV x) y
      have hes := ok_eb Hs.out
      have Hadd := Lib.hid (fun w => saddD_any s (dMulV (dConjV x) y) w hes.1 hes.2 hez.1 hez.2)
      have Hstep := Lib.hid (inn_step (s := s) (zip_at hx hy))
      have Hn := Lib.hid (fun h => dAddV_ok (x := s) (y := dMulV (dConjV x) y) h)
      simp only [] at Hstep
      clear hx hy hrow hrow' r1 r2 hez hes
      generalize dAddV s (dMulV (dConjV x) y) = n at *
      generalize dAddB s (dMulV (dConjV x) y) = t2 at *
      generalize dMulV (dConjV x) y = z at *
      generalize dMulB (dConjV x) y = t1 at *
      generalize dConjV x = xc at *
      go_upto_region 7 with fail
      go_cut [8, 9] from 29 to 61 (fun s8 s9 wx => ∃ k, s8 = .pointer (some ⟨k, 0, none⟩) ∧ s9 = .bool t1 ∧ wx.cell? ⟨k, 0, none⟩ = some (.int .i64 z.n.a) ∧ wx.cell? ⟨k, 1, none⟩ = some (.int .i64 z.n.b) ∧ wx.cell? ⟨k, 2, none⟩ = some (.int .i64 z.n.c) ∧ wx.cell? ⟨k, 3, none⟩ = some (.int .i64 z.n.d) ∧ wx.cell? ⟨k, 4, none⟩ = some (.int .i64 z.e) ∧ Hid (Below wr.heap.size wr wx))
      case first =>
        have hS : E2 wr g g' (j * 5) x y wr := ⟨c0, c1, c2, c3, c4, d0, d1, d2, d3, d4, hgl, hgl', Below.refl _ _⟩
        have hq : wr.heap.size ≤ wr.heap.size := Nat.le_refl _
        have hn : g < wr.heap.size ∧ g' < wr.heap.size := ⟨hgl, hgl'⟩
        have hw : wr.heap.size ≤ wr.heap.size := Nat.le_refl _
        go_region_held3 (fun w' => w'.cell? ⟨g, j * 5, none⟩ = some (.int .i64 x.n.a) ∧ w'.cell? ⟨g, j * 5 + 1, none⟩ = some (.int .i64 x.n.b) ∧ w'.cell? ⟨g, j * 5 + 2, none⟩ = some (.int .i64 x.n.c) ∧ w'.cell? ⟨g, j * 5 + 3, none⟩ = some (.int .i64 x.n.d) ∧ w'.cell? ⟨g, j * 5 + 4, none⟩ = some (.int .i64 x.e) ∧ w'.cell? ⟨g', j * 5, none⟩ = some (.int .i64 y.n.a) ∧ w'.cell? ⟨g', j * 5 + 1, none⟩ = some (.int .i64 y.n.b) ∧ w'.cell? ⟨g', j * 5 + 2, none⟩ = some (.int .i64 y.n.c) ∧ w'.cell? ⟨g', j * 5 + 3, none⟩ = some (.int .i64 y.n.d) ∧ w'.cell? ⟨g', j * 5 + 4, none⟩ = some (.int .i64 y.e) ∧ g < w'.heap.size ∧ g' < w'.heap.size ∧ Below wr.heap.size wr w') (first | (show E2 wr g g' (j * 5) x y _; (with_reducible exact hS.drew)) | (show E2 wr g g' (j * 5) x y _; (with_reducible exact (hS.alloc _).drew)) | (show E2 wr g g' (j * 5) x y _; (with_reducible refine E2.below ?_ hbR); first | assumption | exact ⟨by assumption, by assumption, by assumption, by assumption, by assumption, by assumption, by assumption, by assumption, by assumption, by assumption, by assumption, by assumption, by assumption⟩) | (show E2 wr g g' (j * 5) x y _; (with_reducible refine E2.alloc ?_ _); first | assumption | exact ⟨by assumption, by assumption, by assumption, by assumption, by assumption, by assumption, by assumption, by assumption, by assumption, by assumption, by assumption, by assumption, by assumption⟩) | (show E2 wr g g' (j * 5) x y _; (with_reducible refine E2.realloc (p := .cells #[.int .i64 0, .int .i64 0, .int .i64 0, .int .i64 0, .int .i64 0] 60) ?_ hq hn hw); first | assumption | exact ⟨by assumption, by assumption, by assumption, by assumption, by assumption, by assumption, by assumption, by assumption, by assumption, by assumption, by assumption, by assumption, by assumption⟩) | (show E2 wr g g' (j * 5) x y _; (with_reducible refine E2.set5 (lim := wr.heap.size) ?_ ?_ hn hw); (first | assumption | exact ⟨by assumption, by assumption, by assumption, by assumption, by assumption, by assumption, by assumption, by assumption, by assumption, by assumption, by assumption, by assumption, by assumption⟩); (first | assumption | exact Nat.le_refl _)))
          (first | (go_at_call 77; (first | (with_reducible refine (Hc.out _).mono ?_)); rintro e wR ⟨rfl, hbR⟩; (first | (have hq := Nat.le_trans hq hbR.size) | (have hq : wr.heap.size ≤ wR.heap.size := by have := hbR.size; simpa using this) | (have hq : wr.heap.size ≤ wR.heap.size := by have := hbR.size; simp at this; exact Nat.le_of_succ_le this) | (have hq := Nat.le_trans hq (Nat.le_of_succ_le (by have := hbR.size; simpa using this)))); obtain ⟨hcR, hfR, hzR⟩ := bgrow hbR; (first | (have zg := hzR _ zg) | (have zg := hzR _ (lt_alloc _ _); try simp at zg) | skip)) | (go_at_call 96; (first | (with_reducible refine (Hm.out _).mono ?_)); rintro e wR ⟨rfl, hbR⟩; (first | (have hq := Nat.le_trans hq hbR.size) | (have hq : wr.heap.size ≤ wR.heap.size := by have := hbR.size; simpa using this) | (have hq : wr.heap.size ≤ wR.heap.size := by have := hbR.size; simp at this; exact Nat.le_of_succ_le this) | (have hq := Nat.le_trans hq (Nat.le_of_succ_le (by have := hbR.size; simpa using this)))); obtain ⟨hcR, hfR, hzR⟩ := bgrow hbR; (first | (have zg := hzR _ zg) | (have zg := hzR _ (lt_alloc _ _); try simp at zg) | skip)))
        all_goals go_wp2_with fail
        all_goals go_meet
        all_goals refine ⟨_, rfl, rfl, ?_, ?_, ?_, ?_, ?_, E2.low (g := g) (g' := g') (o := j * 5) (x := x) (y := y) (by assumption)⟩
        all_goals (simp [*, go_sem]; done)
      case rest =>
      obtain ⟨k, rfl, rfl, k0, k1, k2, k3, k4, Hbx⟩ := hcut
      have HS2 := Lib.hid (below_blk Hbx.out hsl HS.out)
      have HR2 := Lib.hid (below_blk Hbx.out hrl HR.out)
      have Hb3 := Lib.hid (below_nx Hb.out Hbx.out)
      have hs3 := Hb3.out.size
      have hsx := Hbx.out.size
      have hkl := World.block_lt_of_cell? _ _ k0
      clear c0 c1 c2 c3 c4 d0 d1 d2 d3 d4 HS HR Hb Hm Hc
      obtain ⟨m0, m1, m2, m3, m4⟩ := blk_cells5 HS2.out
      go_wp2_with fail
      refine (Hadd.out _).mono ?_
      rintro e w4 ⟨rfl, hb4⟩
      have hsl4 := lt_of_block HS2.out
      have HS4 := Lib.hid (below_blk hb4 (lt_of_block HS2.out) HS2.out)
      have HR4 := Lib.hid (below_blk hb4 (lt_of_block HR2.out) HR2.out)
      have Hb4 := Lib.hid (below_nx Hb3.out hb4)
      have hs4 := Hb4.out.size
      have hz4 := lt_of_block HS4.out
      clear hb4 HS2 HR2 Hb3 Hadd k0 k1 k2 k3 k4 m0 m1 m2 m3 m4
      have HR := Lib.hid (alloc_blk (.cells #[.int .i64 n.n.a, .int .i64 n.n.b, .int .i64 n.n.c, .int .i64 n.n.d, .int .i64 n.e] 60) HR4.out)
      have HS5 := Lib.hid (alloc_blk (.cells #[.int .i64 n.n.a, .int .i64 n.n.b, .int .i64 n.n.c, .int .i64 n.n.d, .int .i64 n.e] 60) HS4.out)
      have Hb := Lib.hid (Hb4.out.alloc hs4 (.cells #[.int .i64 n.n.a, .int .i64 n.n.b, .int .i64 n.n.c, .int .i64 n.n.d, .int .i64 n.e] 60))
      obtain ⟨e0, e1, e2, e3, e4⟩ := blk_cells5 HR4.out
      have f1 := fun o => free_at HR4.out o
      have hrl4 := lt_of_block HR4.out
      cases t1 with
      | false =>
        have h := Hstep.out.symm.trans HI.out
        simp only [Bool.false_and, Bool.false_eq_true, if_false] at h
        obtain rfl : V = .zero := HV.out.trans (by rw [← h]; rfl)
        obtain rfl : T = false := HT.out.trans (by rw [← h]; rfl)
        go_wp2_with fail
        obtain ⟨k0, k1, k2, k3, k4⟩ := blk_cells5 (alloc_blk (.cells #[.int .i64 n.n.a, .int .i64 n.n.b, .int .i64 n.n.c, .int .i64 n.n.d, .int .i64 n.e] 60) (set5_at (u0 := .int .i64 0) (u1 := .int .i64 0) (u2 := .int .i64 0) (u3 := .int .i64 0) (u4 := .int .i64 0) HR4.out))
        refine bodyPost_ret (v := .tuple #[(.agg #[.int .i64 Dw.zero.n.a, .int .i64 Dw.zero.n.b, .int .i64 Dw.zero.n.c, .int .i64 Dw.zero.n.d, .int .i64 Dw.zero.e]), .bool false]) (by simp only [results, Try.results56]; simp [go_sem, k0, k1, k2, k3, k4, Dw.zero, Zw.zero]) rfl ⟨rfl, ?_⟩
        have := Hb4.out
        have := Hb4.out.size
        go_grown
      | true =>
        cases t2 with
        | false =>
          have h := Hstep.out.symm.trans HI.out
          simp only [Bool.and_false, Bool.false_eq_true, if_false] at h
          obtain rfl : V = .zero := HV.out.trans (by rw [← h]; rfl)
          obtain rfl : T = false := HT.out.trans (by rw [← h]; rfl)
          go_wp2_with fail
          obtain ⟨k0, k1, k2, k3, k4⟩ := blk_cells5 (alloc_blk (.cells #[.int .i64 n.n.a, .int .i64 n.n.b, .int .i64 n.n.c, .int .i64 n.n.d, .int .i64 n.e] 60) (set5_at (u0 := .int .i64 0) (u1 := .int .i64 0) (u2 := .int .i64 0) (u3 := .int .i64 0) (u4 := .int .i64 0) HR4.out))
          refine bodyPost_ret (v := .tuple #[(.agg #[.int .i64 Dw.zero.n.a, .int .i64 Dw.zero.n.b, .int .i64 Dw.zero.n.c, .int .i64 Dw.zero.n.d, .int .i64 Dw.zero.e]), .bool false]) (by simp only [results, Try.results56]; simp [go_sem, k0, k1, k2, k3, k4, Dw.zero, Zw.zero]) rfl ⟨rfl, ?_⟩
          have := Hb4.out
          have := Hb4.out.size
          go_grown
        | true =>
          have h := Hstep.out.symm.trans HI.out
          simp only [Bool.and_self, if_true] at h
          obtain ⟨q0, q1, q2, q3, q4⟩ := blk_cells5 HS4.out
          have f2 := fun o => free_at HS4.out o
          have Hsn := Lib.hid (alloc_blk (.cells #[.int .i64 n.n.a, .int .i64 n.n.b, .int .i64 n.n.c, .int .i64 n.n.d, .int .i64 n.e] 60) (set5_at (u0 := .int .i64 n.n.a) (u1 := .int .i64 n.n.b) (u2 := .int .i64 n.n.c) (u3 := .int .i64 n.n.d) (u4 := .int .i64 n.e) HS4.out))
          have hne : w.heap.size ≠ w2.heap.size := by omega
          have Hrn := Lib.hid (alloc_blk (.cells #[.int .i64 n.n.a, .int .i64 n.n.b, .int .i64 n.n.c, .int .i64 n.n.d, .int .i64 n.e] 60) (set5_blk (g := w2.heap.size) (u0 := .int .i64 n.n.a) (u1 := .int .i64 n.n.b) (u2 := .int .i64 n.n.c) (u3 := .int .i64 n.n.d) (u4 := .int .i64 n.e) hne HR4.out))
          go_wp2_with fail
          go_roundg (b.length - (j + 1))
          case measure => omega
          case rel =>
            refine ⟨j + 1, n, rfl, by omega, by go_num, Lib.hid h, Lib.hid (Hn.out (by trivial)), Hsn, Hrn, ?_⟩
            have := Hb4.out
            have := Hb4.out.size
            show Below _ _ _
            go_grown
    · obtain rfl : j = b.length := by omega
      have hzl : (a.zip b).length = b.length := by rw [List.length_zip]; omega
      have h := HI.out
      rw [List.drop_of_length_le (by omega)] at h
      obtain rfl : V = s := HV.out.trans (by rw [← h]; rfl)
      obtain rfl : T = true := HT.out.trans (by rw [← h]; rfl)
      obtain ⟨q0, q1, q2, q3, q4⟩ := blk_cells5 HS.out
      obtain ⟨e0, e1, e2, e3, e4⟩ := blk_cells5 HR.out
      have f1 := fun o => free_at HR.out o
      have hrl := lt_of_block HR.out
      go_wp2_with fail
      obtain ⟨k0, k1, k2, k3, k4⟩ := blk_cells5 (set5_at (u0 := .int .i64 V.n.a) (u1 := .int .i64 V.n.b) (u2 := .int .i64 V.n.c) (u3 := .int .i64 V.n.d) (u4 := .int .i64 V.e) HR.out)
      refine bodyPost_ret (v := .tuple #[(.agg #[.int .i64 V.n.a, .int .i64 V.n.b, .int .i64 V.n.c, .int .i64 V.n.d, .int .i64 V.e]), .bool true]) (by simp only [results, Try.results56]; simp [go_sem, k0, k1, k2, k3, k4]) rfl ⟨rfl, ?_⟩
      have := Hb.out
      go_grown
theorem sinnSt (B C : Nat) (v u : Value) (a b : List Dw) (w : World) (hv : DSl w B v a) (hu : DSl w C u b) (hm : a.length ≤ 1048576) (hm' : b.length ≤ 1048576) :
    Calls Try.prog 56 #[v, u] w fun e w' => e = .returned (.tuple #[(.agg #[.int .i64 (innV a b).n.a, .int .i64 (innV a b).n.b, .int .i64 (innV a b).n.c, .int .i64 (innV a b).n.d, .int .i64 (innV a b).e]), .bool (innB a b)]) ∧ Below w.heap.size w w' := by
  have hno : innO a b = none → innV a b = .zero ∧ innB a b = false := fun h => ⟨by unfold innV; rw [h]; rfl, by unfold innB; rw [h]; rfl⟩
  cases ha : stB a with
  | false =>
    have h := hno (by unfold innO; rw [ha]; rfl)
    rw [h.1, h.2]; exact sinnS_no0 B C v u a b w hv hu hm hm' ha
  | true =>
    cases hb : stB b with
    | false =>
      have h := hno (by unfold innO; rw [ha, hb]; rfl)
      rw [h.1, h.2]; exact sinnS_no1 B C v u a b w hv hu hm hm' ha hb
    | true =>
      by_cases hl : a.length = b.length
      · exact sinnS_yes B C v u a b w hv hu ha hb hl
      · have h := hno (by unfold innO; rw [ha, hb, decide_eq_false hl]; rfl)
        rw [h.1, h.2]; exact sinnS_no2 B C v u a b w hv hu hm hm' ha hb hl
end Go.Proofs.Ytggjbpgibdpflaa
