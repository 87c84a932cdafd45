/- UBaseC11: several of our texts in one: UDsKs UDsG. -/
import Derived.Test.YtlmiebeffdcfhaaGreatUBaseB12
import Derived.Test.YtlmiebeffdcfhaaGreatUBaseC06
namespace Go.Proofs.YtlmiebeffdcfhaaGreat
open Go.RowKit
/-- A sum of numbers, from a number on. -/
def sumD : Dw → List Dw → Option Dw
  | s, [] => some s
  | s, z :: r => if dAddB s z then sumD (dAddV s z) r else none
theorem sum_step {s z : Dw} {l : List Dw} {j : Nat} (hz : l[j]? = some z) : sumD s (l.drop j) = if dAddB s z then sumD (dAddV s z) (l.drop (j + 1)) else none := by
  have hj : j < l.length := by
    rcases Nat.lt_or_ge j l.length with h' | h'
    · exact h'
    · rw [List.getElem?_eq_none h'] at hz; cases hz
  rw [List.getElem?_eq_getElem hj] at hz
  injection hz with hz
  rw [← List.getElem_cons_drop hj, hz]
  rfl
attribute [local irreducible] World.cell?
set_option maxRecDepth 100000 in
set_option maxHeartbeats 3200000 in
theorem isumOf (B : Nat) (v : Value) (P : List Dw) (w : World) (hv : DSl w B v P) (he : Eb P) (hm : P.length ≤ 16) :
    Calls Tryz.prog 124 #[v] w fun e w' => e = .returned (.tuple #[(.agg #[.int .i64 ((sumD .zero P).getD .zero).n.a, .int .i64 ((sumD .zero P).getD .zero).n.b, .int .i64 ((sumD .zero P).getD .zero).n.c, .int .i64 ((sumD .zero P).getD .zero).n.d, .int .i64 ((sumD .zero P).getD .zero).e]), .bool (sumD .zero P).isSome]) ∧ Below w.heap.size w w' := by
  obtain ⟨V, hV⟩ : ∃ V, V = (sumD .zero P).getD .zero := ⟨_, rfl⟩
  obtain ⟨T, hT⟩ : ∃ T, T = (sumD .zero P).isSome := ⟨_, rfl⟩
  rw [← hV, ← hT]
  have HV := Lib.hid hV
  have HT := Lib.hid hT
  have HE := Lib.hid he
  clear hV hT he
  have Hr0_0 := Lib.hid (alloc_blk (.cells #[.int .i64 0, .int .i64 0, .int .i64 0, .int .i64 0, .int .i64 0] 70) (heap_alloc_new w (.cells #[.int .i64 0, .int .i64 0, .int .i64 0, .int .i64 0, .int .i64 0] 70)))
  have Hr0_1 := Lib.hid (show ((w.alloc (.cells #[.int .i64 0, .int .i64 0, .int .i64 0, .int .i64 0, .int .i64 0] 70)).alloc (.cells #[.int .i64 0, .int .i64 0, .int .i64 0, .int .i64 0, .int .i64 0] 70)).heap[w.heap.size + 1]? = some (.cells #[.int .i64 0, .int .i64 0, .int .i64 0, .int .i64 0, .int .i64 0] 70 (0, 0)) from by simpa using heap_alloc_new (w.alloc (.cells #[.int .i64 0, .int .i64 0, .int .i64 0, .int .i64 0, .int .i64 0] 70)) (.cells #[.int .i64 0, .int .i64 0, .int .i64 0, .int .i64 0, .int .i64 0] 70))
  obtain ⟨p, cap, rfl, hcap, hr⟩ := hv
  have Hr := Lib.hid hr
  clear hr
  go_enter Tryz.func124, Tryz.ntmps124
  go_wp2_with fail
  go_loopg [11] P.length (fun k i wr => ∃ (j : Nat) (s : Dw), k = P.length - j ∧ j ≤ P.length ∧ i = .int .i64 j ∧ Hid (sumD s (P.drop j) = sumD .zero P) ∧ Hid s.ok ∧ Hid (wr.heap[w.heap.size + 1]? = some (.cells #[.int .i64 s.n.a, .int .i64 s.n.b, .int .i64 s.n.c, .int .i64 s.n.d, .int .i64 s.e] 70)) ∧ Hid (wr.heap[w.heap.size]? = some (.cells #[.int .i64 0, .int .i64 0, .int .i64 0, .int .i64 0, .int .i64 0] 70)) ∧ Hid (Below w.heap.size w wr))
  case atStart => exact ⟨0, .zero, rfl, Nat.zero_le _, rfl, Lib.hid rfl, Lib.hid zero_ok, Hr0_1, Hr0_0, ((Below.refl _ _).alloc (Nat.le_refl _) _).alloc (by simp) _⟩
  case round =>
    obtain ⟨j, s, rfl, hj, rfl, HI, Hs, HS, HR, Hb⟩ := hrel
    by_cases hlt : j < P.length
    · obtain ⟨g, rfl, _, hrow⟩ := Hr.out (by omega)
      obtain ⟨z, hz⟩ : ∃ z, P[j]? = some z := ⟨P[j], List.getElem?_eq_getElem hlt⟩
      have r1 := hrow.below Hb.out hrow.lt
      obtain ⟨c0, c1, c2, c3, c4⟩ := r1.cells hz
      have hes := ok_eb Hs.out
      have hez := HE.out z (List.mem_of_getElem? hz)
      have Hadd := Lib.hid (fun w => iaddD_any s z w hes.1 hes.2 hez.1 hez.2)
      have Hstep := Lib.hid (sum_step (s := s) hz)
      have Hn := Lib.hid (fun h => dAddV_ok (x := s) (y := z) h)
      have hs := Hb.out.size
      have Hba := Lib.hid (Hb.out.alloc hs (.cells #[.int .i64 z.n.a, .int .i64 z.n.b, .int .i64 z.n.c, .int .i64 z.n.d, .int .i64 z.e] 70))
      have HSa := Lib.hid (alloc_blk (.cells #[.int .i64 z.n.a, .int .i64 z.n.b, .int .i64 z.n.c, .int .i64 z.n.d, .int .i64 z.e] 70) HS.out)
      have HRa := Lib.hid (alloc_blk (.cells #[.int .i64 z.n.a, .int .i64 z.n.b, .int .i64 z.n.c, .int .i64 z.n.d, .int .i64 z.e] 70) HR.out)
      obtain ⟨q0, q1, q2, q3, q4⟩ := blk_cells5 HSa.out
      clear hz hrow r1 hes hez
      generalize dAddV s z = n at *
      generalize dAddB s z = t at *
      go_wp2_with fail
      refine (Hadd.out _).mono ?_
      rintro e w4 ⟨rfl, hb4⟩
      have HS4 := Lib.hid (below_blk hb4 (lt_of_block HSa.out) HSa.out)
      have HR4 := Lib.hid (below_blk hb4 (lt_of_block HRa.out) HRa.out)
      have Hb4 := Lib.hid (below_nx Hba.out hb4)
      have hs4 := Hb4.out.size
      have hz4 := lt_of_block HS4.out
      have hy4 := lt_of_block HR4.out
      clear hb4 Hadd q0 q1 q2 q3 q4 HS HR HSa HRa Hb
      obtain ⟨e0, e1, e2, e3, e4⟩ := blk_cells5 HR4.out
      obtain ⟨q0, q1, q2, q3, q4⟩ := blk_cells5 HS4.out
      have f1 := fun o => free_at HR4.out o
      have f2 := fun o => free_at HS4.out o
      have hne : w.heap.size ≠ w.heap.size + 1 := by omega
      cases t with
      | false =>
        have h := Hstep.out.symm.trans HI.out
        simp only [Bool.false_eq_true, if_false] at h
        obtain rfl : V = .zero := HV.out.trans (by rw [← h]; rfl)
        obtain rfl : T = false := HT.out.trans (by rw [← h]; rfl)
        go_wp2_with fail
        obtain ⟨k0, k1, k2, k3, k4⟩ := blk_cells5 (alloc_blk (.cells #[.int .i64 n.n.a, .int .i64 n.n.b, .int .i64 n.n.c, .int .i64 n.n.d, .int .i64 n.e] 70) (set5_at (u0 := .int .i64 0) (u1 := .int .i64 0) (u2 := .int .i64 0) (u3 := .int .i64 0) (u4 := .int .i64 0) HR4.out))
        refine bodyPost_ret (v := .tuple #[(.agg #[.int .i64 Dw.zero.n.a, .int .i64 Dw.zero.n.b, .int .i64 Dw.zero.n.c, .int .i64 Dw.zero.n.d, .int .i64 Dw.zero.e]), .bool false]) (by simp only [results, Tryz.results124]; simp [go_sem, k0, k1, k2, k3, k4, Dw.zero, Zw.zero]) rfl ⟨rfl, ?_⟩
        have := Hb4.out
        go_grown
      | true =>
        have h := Hstep.out.symm.trans HI.out
        simp only [if_true] at h
        have Hsn := Lib.hid (alloc_blk (.cells #[.int .i64 n.n.a, .int .i64 n.n.b, .int .i64 n.n.c, .int .i64 n.n.d, .int .i64 n.e] 70) (set5_at (u0 := .int .i64 n.n.a) (u1 := .int .i64 n.n.b) (u2 := .int .i64 n.n.c) (u3 := .int .i64 n.n.d) (u4 := .int .i64 n.e) HS4.out))
        have Hrn := Lib.hid (alloc_blk (.cells #[.int .i64 n.n.a, .int .i64 n.n.b, .int .i64 n.n.c, .int .i64 n.n.d, .int .i64 n.e] 70) (set5_blk (g := w.heap.size + 1) (u0 := .int .i64 n.n.a) (u1 := .int .i64 n.n.b) (u2 := .int .i64 n.n.c) (u3 := .int .i64 n.n.d) (u4 := .int .i64 n.e) hne HR4.out))
        go_wp2_with fail
        go_roundg (P.length - (j + 1))
        case measure => omega
        case rel =>
          refine ⟨j + 1, n, rfl, by omega, by go_num, Lib.hid h, Lib.hid (Hn.out (by trivial)), Hsn, Hrn, ?_⟩
          have := Hb4.out
          show Below _ _ _
          go_grown
    · obtain rfl : j = P.length := by omega
      have h := HI.out
      rw [List.drop_of_length_le (Nat.le_refl _)] at h
      obtain rfl : V = s := HV.out.trans (by rw [← h]; rfl)
      obtain rfl : T = true := HT.out.trans (by rw [← h]; rfl)
      obtain ⟨q0, q1, q2, q3, q4⟩ := blk_cells5 HS.out
      obtain ⟨e0, e1, e2, e3, e4⟩ := blk_cells5 HR.out
      have f1 := fun o => free_at HR.out o
      have hrl := lt_of_block HR.out
      go_wp2_with fail
      obtain ⟨k0, k1, k2, k3, k4⟩ := blk_cells5 (set5_at (u0 := .int .i64 V.n.a) (u1 := .int .i64 V.n.b) (u2 := .int .i64 V.n.c) (u3 := .int .i64 V.n.d) (u4 := .int .i64 V.e) HR.out)
      refine bodyPost_ret (v := .tuple #[(.agg #[.int .i64 V.n.a, .int .i64 V.n.b, .int .i64 V.n.c, .int .i64 V.n.d, .int .i64 V.e]), .bool true]) (by simp only [results, Tryz.results124]; simp [go_sem, k0, k1, k2, k3, k4]) rfl ⟨rfl, ?_⟩
      have := Hb.out
      go_grown
end Go.Proofs.YtlmiebeffdcfhaaGreat
namespace Go.Proofs.YtlmiebeffdcfhaaGreat
open Go.RowKit
theorem vec_any (B : Nat) (n : Int) (w : World) (hcur : CurAt w B) (hB : B < w.heap.size) (h0 : 1 ≤ n) (h1 : n ≤ 3) :
    Calls Tryz.prog 117 #[.pointer (some ⟨B, 0, none⟩), .int .i64 n] w fun e w' => (∃ v l, e = .returned v ∧ 2 ≤ List.length l ∧ List.length l ≤ 8 ∧ Eb l ∧ DSl w' w.heap.size v l) ∧ CurAt w' B ∧ Own B w w' := by
  rcases (show n = 1 ∨ n = 2 ∨ n = 3 by omega) with rfl | rfl | rfl
  · refine (vec1 B w hcur hB).mono ?_
    rintro e w1 ⟨⟨v, l, rfl, hl, he, hd⟩, hc, ho⟩
    exact ⟨⟨v, l, rfl, by omega, by omega, he, hd⟩, hc, ho⟩
  · refine (vec2 B w hcur hB).mono ?_
    rintro e w1 ⟨⟨v, l, rfl, hl, he, hd⟩, hc, ho⟩
    exact ⟨⟨v, l, rfl, by omega, by omega, he, hd⟩, hc, ho⟩
  · refine (vec3 B w hcur hB).mono ?_
    rintro e w1 ⟨⟨v, l, rfl, hl, he, hd⟩, hc, ho⟩
    exact ⟨⟨v, l, rfl, by omega, by omega, he, hd⟩, hc, ho⟩
theorem flat_take : ∀ (l : List Dw) (k : Nat), flat (l.take k) = (flat l).take (k * 5)
  | l, 0 => by simp [flat]
  | [], k + 1 => by simp [flat]
  | x :: l, k + 1 => by
    rw [List.take_succ_cons, flat, flat, flat_take l k, show (k + 1) * 5 = (fl x).length + k * 5 by simp [fl]; omega, List.take_length_add_append]
theorem DRow.take {w : World} {g : Nat} {l : List Dw} (h : DRow w g l) (k : Nat) : DRow w g (l.take k) := by
  obtain ⟨cs, h1, h2⟩ := h
  refine ⟨cs, h1, ?_⟩
  rw [flat_take, ← h2, List.take_take, List.length_take]
  congr 1
  omega
attribute [local irreducible] World.cell?
set_option maxRecDepth 100000 in
set_option maxHeartbeats 3200000 in
theorem bentS (B : Nat) (w : World) (hcur : CurAt w B) (hB : B < w.heap.size) :
    Calls Tryz.prog 84 #[.pointer (some ⟨B, 0, none⟩)] w fun e w' => (∃ v l, e = .returned v ∧ List.length l ≤ 8 ∧ Eb l ∧ DSl w' w.heap.size v l) ∧ CurAt w' B ∧ Own B w w' := by
  go_enter Tryz.func84, Tryz.ntmps84
  go_wp2_with fail
  refine (below_any B 3 _ hcur (by omega) (by omega)).mono ?_
  rintro e w1 ⟨⟨x, x0, x1, rfl⟩, hc1, ho1⟩
  have hs1 := ho1.size
  have Hc1 := Lib.hid hc1
  have Ho1 := Lib.hid ho1
  clear hc1 ho1 hcur
  go_wp2_with fail
  refine (vec_any B (1 + x) _ Hc1.out (by omega) (by omega) (by omega)).mono ?_
  rintro e w2 ⟨⟨v, l, rfl, hl2, hl8, he, hd⟩, hc2, ho2⟩
  have hs2 := ho2.size
  have Hc2 := Lib.hid hc2
  have Ho2 := Lib.hid (own_trans Ho1.out ho2)
  have He := Lib.hid he
  obtain ⟨a, cap, rfl, hcap, hr⟩ := hd
  obtain ⟨g, rfl, hg, hrow⟩ := hr (by omega)
  have Hrow := Lib.hid hrow
  clear hc2 ho2 Hc1 Ho1 he hr hrow
  go_wp2_with fail
  refine (below_any B 8 _ Hc2.out (by omega) (by omega)).mono ?_
  rintro e w3 ⟨⟨y, y0, y1, rfl⟩, hc3, ho3⟩
  have hs3 := ho3.size
  have Hrow3 := Lib.hid (Hrow.out.own ho3 (by omega))
  have Hc3 := Lib.hid hc3
  have Ho3 := Lib.hid (own_trans Ho2.out ho3)
  clear hc3 ho3 Hc2 Ho2 Hrow
  by_cases h0 : y = 0
  · subst h0
    go_wp2_with fail
    refine (below_any B (l.length : Int) _ Hc3.out (by omega) (by omega)).mono ?_
    rintro e w4 ⟨⟨k, k0, k1, rfl⟩, hc4, ho4⟩
    obtain ⟨k, rfl⟩ : ∃ n : Nat, k = n := ⟨k.toNat, by omega⟩
    have hs4 := ho4.size
    have Hrow4 := Lib.hid (Hrow3.out.own ho4 (by omega))
    have Hc4 := Lib.hid hc4
    have Ho4 := Lib.hid (own_trans Ho3.out ho4)
    clear hc4 ho4 Hc3 Ho3 Hrow3
    go_wp2_with fail
    refine (bent_any B _ Hc4.out (by omega)).mono ?_
    rintro e w5 ⟨⟨z, rfl, ze⟩, hc5, ho5⟩
    have hs5 := ho5.size
    have hr5 := Hrow4.out.own ho5 (by omega)
    obtain ⟨u, hu⟩ : ∃ u, l[k]? = some u := ⟨l[k], List.getElem?_eq_getElem (by omega)⟩
    obtain ⟨c0, c1, c2, c3, c4⟩ := hr5.cells hu
    have f1 := fun o => hr5.free o
    have Hr6 := Lib.hid (hr5.put k (by omega) z)
    have Hc5 := Lib.hid hc5
    have Ho5 := Lib.hid (own_trans Ho4.out ho5)
    have hgw : w.heap.size ≤ g := by omega
    have Ho6 := Lib.hid (own_dn (own_dn (own_dn (own_dn (own_dn Ho5.out (k * 5) (.int .i64 z.n.a) hgw) (k * 5 + 1) (.int .i64 z.n.b) hgw) (k * 5 + 2) (.int .i64 z.n.c) hgw) (k * 5 + 3) (.int .i64 z.n.d) hgw) (k * 5 + 4) (.int .i64 z.e) hgw)
    have Hc6 := Lib.hid (Hc5.out.own (C := g) (own_set (own_set (own_set (own_set (own_set (own_refl g w5) (k * 5) (.int .i64 z.n.a)) (k * 5 + 1) (.int .i64 z.n.b)) (k * 5 + 2) (.int .i64 z.n.c)) (k * 5 + 3) (.int .i64 z.n.d)) (k * 5 + 4) (.int .i64 z.e)) (by omega))
    clear hc5 ho5 Hc4 Ho4 Hrow4 hr5 hu Hc5 Ho5
    go_wp2_with fail
    go_ret
    exact ⟨⟨_, l.set k z, rfl, by simpa using hl8, He.out.set k ze, DSl.mk (by simp) hcap hgw Hr6.out⟩, Hc6.out, Ho6.out⟩
  · by_cases h1 : y = 1
    · subst h1
      go_wp2_with fail
      refine (below_any B (l.length : Int) _ Hc3.out (by omega) (by omega)).mono ?_
      rintro e w4 ⟨⟨k, k0, k1, rfl⟩, hc4, ho4⟩
      obtain ⟨k, rfl⟩ : ∃ n : Nat, k = n := ⟨k.toNat, by omega⟩
      have hs4 := ho4.size
      have Hrow4 := Lib.hid (Hrow3.out.own ho4 (by omega))
      have Hc4 := Lib.hid hc4
      have Ho4 := Lib.hid (own_trans Ho3.out ho4)
      clear hc4 ho4 Hc3 Ho3 Hrow3
      go_wp2_with fail
      go_ret
      exact ⟨⟨_, l.take k, rfl, by simp; omega, He.out.take k, DSl.mk (by simp; omega) (by omega) (by omega) (Hrow4.out.take k)⟩, Hc4.out, Ho4.out⟩
    · have e0 : (y == 0) = false := by simpa using h0
      have e1 : (y == 1) = false := by simpa using h1
      go_wp2_with fail
      go_ret
      exact ⟨⟨_, l, rfl, hl8, He.out, DSl.mk rfl hcap (by omega) Hrow3.out⟩, Hc3.out, Ho3.out⟩
end Go.Proofs.YtlmiebeffdcfhaaGreat
