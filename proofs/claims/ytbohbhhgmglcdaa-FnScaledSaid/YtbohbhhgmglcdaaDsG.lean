/- Draws of states, of pairs of states, of a state and a fraction, of a basis state's numbers. -/
import Derived.Test.YtbohbhhgmglcdaaDsD
import Derived.Test.YtbohbhhgmglcdaaDwDraw2
namespace Go.Proofs.Ytbohbhhgmglcdaa
open Go.RowKit
theorem vec_any (B : Nat) (n : Int) (w : World) (hcur : CurAt w B) (hB : B < w.heap.size) (h0 : 1 ≤ n) (h1 : n ≤ 3) :
    Calls Try.prog 46 #[.pointer (some ⟨B, 0, none⟩), .int .i64 n] w fun e w' => (∃ v l, e = .returned v ∧ 2 ≤ List.length l ∧ List.length l ≤ 8 ∧ Eb l ∧ DSl w' w.heap.size v l) ∧ CurAt w' B ∧ Own B w w' := by
  rcases (show n = 1 ∨ n = 2 ∨ n = 3 by omega) with rfl | rfl | rfl
  · refine (vec1 B w hcur hB).mono ?_
    rintro e w1 ⟨⟨v, l, rfl, hl, he, hd⟩, hc, ho⟩
    exact ⟨⟨v, l, rfl, by omega, by omega, he, hd⟩, hc, ho⟩
  · refine (vec2 B w hcur hB).mono ?_
    rintro e w1 ⟨⟨v, l, rfl, hl, he, hd⟩, hc, ho⟩
    exact ⟨⟨v, l, rfl, by omega, by omega, he, hd⟩, hc, ho⟩
  · refine (vec3 B w hcur hB).mono ?_
    rintro e w1 ⟨⟨v, l, rfl, hl, he, hd⟩, hc, ho⟩
    exact ⟨⟨v, l, rfl, by omega, by omega, he, hd⟩, hc, ho⟩
theorem flat_take : ∀ (l : List Dw) (k : Nat), flat (l.take k) = (flat l).take (k * 5)
  | l, 0 => by simp [flat]
  | [], k + 1 => by simp [flat]
  | x :: l, k + 1 => by
    rw [List.take_succ_cons, flat, flat, flat_take l k, show (k + 1) * 5 = (fl x).length + k * 5 by simp [fl]; omega, List.take_length_add_append]
theorem DRow.take {w : World} {g : Nat} {l : List Dw} (h : DRow w g l) (k : Nat) : DRow w g (l.take k) := by
  obtain ⟨cs, h1, h2⟩ := h
  refine ⟨cs, h1, ?_⟩
  rw [flat_take, ← h2, List.take_take, List.length_take]
  congr 1
  omega
attribute [local irreducible] World.cell?
set_option maxRecDepth 100000 in
set_option maxHeartbeats 3200000 in
theorem bentS (B : Nat) (w : World) (hcur : CurAt w B) (hB : B < w.heap.size) :
    Calls Try.prog 45 #[.pointer (some ⟨B, 0, none⟩)] w fun e w' => (∃ v l, e = .returned v ∧ List.length l ≤ 8 ∧ Eb l ∧ DSl w' w.heap.size v l) ∧ CurAt w' B ∧ Own B w w' := by
  go_enter Try.func45, Try.ntmps45
  go_wp2_with fail
  refine (below_any B 3 _ hcur (by omega) (by omega)).mono ?_
  rintro e w1 ⟨⟨x, x0, x1, rfl⟩, hc1, ho1⟩
  have hs1 := ho1.size
  have Hc1 := Lib.hid hc1
  have Ho1 := Lib.hid ho1
  clear hc1 ho1 hcur
  go_wp2_with fail
  refine (vec_any B (1 + x) _ Hc1.out (by omega) (by omega) (by omega)).mono ?_
  rintro e w2 ⟨⟨v, l, rfl, hl2, hl8, he, hd⟩, hc2, ho2⟩
  have hs2 := ho2.size
  have Hc2 := Lib.hid hc2
  have Ho2 := Lib.hid (own_trans Ho1.out ho2)
  have He := Lib.hid he
  obtain ⟨a, cap, rfl, hcap, hr⟩ := hd
  obtain ⟨g, rfl, hg, hrow⟩ := hr (by omega)
  have Hrow := Lib.hid hrow
  clear hc2 ho2 Hc1 Ho1 he hr hrow
  go_wp2_with fail
  refine (below_any B 8 _ Hc2.out (by omega) (by omega)).mono ?_
  rintro e w3 ⟨⟨y, y0, y1, rfl⟩, hc3, ho3⟩
  have hs3 := ho3.size
  have Hrow3 := Lib.hid (Hrow.out.own ho3 (by omega))
  have Hc3 := Lib.hid hc3
  have Ho3 := Lib.hid (own_trans Ho2.out ho3)
  clear hc3 ho3 Hc2 Ho2 Hrow
  by_cases h0 : y = 0
  · subst h0
    go_wp2_with fail
    refine (below_any B (l.length : Int) _ Hc3.out (by omega) (by omega)).mono ?_
    rintro e w4 ⟨⟨k, k0, k1, rfl⟩, hc4, ho4⟩
    obtain ⟨k, rfl⟩ : ∃ n : Nat, k = n := ⟨k.toNat, by omega⟩
    have hs4 := ho4.size
    have Hrow4 := Lib.hid (Hrow3.out.own ho4 (by omega))
    have Hc4 := Lib.hid hc4
    have Ho4 := Lib.hid (own_trans Ho3.out ho4)
    clear hc4 ho4 Hc3 Ho3 Hrow3
    go_wp2_with fail
    refine (bent_any B _ Hc4.out (by omega)).mono ?_
    rintro e w5 ⟨⟨z, rfl, ze⟩, hc5, ho5⟩
    have hs5 := ho5.size
    have hr5 := Hrow4.out.own ho5 (by omega)
    obtain ⟨u, hu⟩ : ∃ u, l[k]? = some u := ⟨l[k], List.getElem?_eq_getElem (by omega)⟩
    obtain ⟨c0, c1, c2, c3, c4⟩ := hr5.cells hu
    have f1 := fun o => hr5.free o
    have Hr6 := Lib.hid (hr5.put k (by omega) z)
    have Hc5 := Lib.hid hc5
    have Ho5 := Lib.hid (own_trans Ho4.out ho5)
    have hgw : w.heap.size ≤ g := by omega
    have Ho6 := Lib.hid (own_dn (own_dn (own_dn (own_dn (own_dn Ho5.out (k * 5) (.int .i64 z.n.a) hgw) (k * 5 + 1) (.int .i64 z.n.b) hgw) (k * 5 + 2) (.int .i64 z.n.c) hgw) (k * 5 + 3) (.int .i64 z.n.d) hgw) (k * 5 + 4) (.int .i64 z.e) hgw)
    have Hc6 := Lib.hid (Hc5.out.own (C := g) (own_set (own_set (own_set (own_set (own_set (own_refl g w5) (k * 5) (.int .i64 z.n.a)) (k * 5 + 1) (.int .i64 z.n.b)) (k * 5 + 2) (.int .i64 z.n.c)) (k * 5 + 3) (.int .i64 z.n.d)) (k * 5 + 4) (.int .i64 z.e)) (by omega))
    clear hc5 ho5 Hc4 Ho4 Hrow4 hr5 hu Hc5 Ho5
    go_wp2_with fail
    go_ret
    exact ⟨⟨_, l.set k z, rfl, by simpa using hl8, He.out.set k ze, DSl.mk (by simp) hcap hgw Hr6.out⟩, Hc6.out, Ho6.out⟩
  · by_cases h1 : y = 1
    · subst h1
      go_wp2_with fail
      refine (below_any B (l.length : Int) _ Hc3.out (by omega) (by omega)).mono ?_
      rintro e w4 ⟨⟨k, k0, k1, rfl⟩, hc4, ho4⟩
      obtain ⟨k, rfl⟩ : ∃ n : Nat, k = n := ⟨k.toNat, by omega⟩
      have hs4 := ho4.size
      have Hrow4 := Lib.hid (Hrow3.out.own ho4 (by omega))
      have Hc4 := Lib.hid hc4
      have Ho4 := Lib.hid (own_trans Ho3.out ho4)
      clear hc4 ho4 Hc3 Ho3 Hrow3
      go_wp2_with fail
      go_ret
      exact ⟨⟨_, l.take k, rfl, by simp; omega, He.out.take k, DSl.mk (by simp; omega) (by omega) (by omega) (Hrow4.out.take k)⟩, Hc4.out, Ho4.out⟩
    · have e0 : (y == 0) = false := by simpa using h0
      have e1 : (y == 1) = false := by simpa using h1
      go_wp2_with fail
      go_ret
      exact ⟨⟨_, l, rfl, hl8, He.out, DSl.mk rfl hcap (by omega) Hrow3.out⟩, Hc3.out, Ho3.out⟩
set_option maxRecDepth 100000 in
set_option maxHeartbeats 3200000 in
theorem drawAdd (a0 : Option Addr) (len cap : Nat) (w : World) (hcode : CodeAt w w.heap.size a0 len) :
    Calls Try.prog 14 #[.slice a0 len cap] w fun e w' => (∃ u v a b, e = .returned (.tuple #[u, v]) ∧ List.length a ≤ 8 ∧ List.length b ≤ 8 ∧ Eb a ∧ Eb b ∧ DSl w' w.heap.size u a ∧ DSl w' w.heap.size v b) ∧ Below w.heap.size w w' := by
  have Hcode := Lib.hid hcode
  clear hcode
  go_enter Try.func14, Try.ntmps14
  go_wp2_with fail
  refine (new_any a0 len cap _ Hcode.out).mono ?_
  rintro e w1 ⟨rfl, hc1, hb1, hz1⟩
  have Hc1 := Lib.hid hc1
  have Hb1 := Lib.hid hb1
  clear hc1 hb1
  go_wp2_with fail
  refine (below_any w.heap.size 3 _ Hc1.out (by omega) (by omega)).mono ?_
  rintro e w2 ⟨⟨x, x0, x1, rfl⟩, hc2, ho2⟩
  have hs2 := ho2.size
  have Hc2 := Lib.hid hc2
  have Hb2 := Lib.hid (own_below Hb1.out ho2 (by omega))
  clear hc2 ho2 Hc1 Hb1
  go_wp2_with fail
  refine (once_any w.heap.size 4 _ Hc2.out (by omega) (by omega)).mono ?_
  rintro e w3 ⟨⟨t, rfl⟩, hc3, ho3⟩
  have hs3 := ho3.size
  have Hc3 := Lib.hid hc3
  have Hb3 := Lib.hid (own_below Hb2.out ho3 (by omega))
  clear hc3 ho3 Hc2 Hb2
  cases t with
  | true =>
    go_wp2_with fail
    refine (bentS w.heap.size _ Hc3.out (by omega)).mono ?_
    rintro e w4 ⟨⟨u, a, rfl, ha, ea, hd⟩, hc4, ho4⟩
    have hs4 := ho4.size
    have Hd := Lib.hid hd
    have Hc4 := Lib.hid hc4
    have Hb4 := Lib.hid (own_below Hb3.out ho4 (by omega))
    clear hd hc4 ho4 Hc3 Hb3
    go_wp2_with fail
    refine (bentS w.heap.size _ Hc4.out (by omega)).mono ?_
    rintro e w5 ⟨⟨v, b, rfl, hb, eb, hd⟩, hc5, ho5⟩
    have hs5 := ho5.size
    have Hd1 := Lib.hid (Hd.out.own ho5 (by omega))
    have Hd2 := Lib.hid hd
    have Hb5 := Lib.hid (own_below Hb4.out ho5 (by omega))
    clear hd hc5 ho5 Hc4 Hb4 Hd
    go_wp2_with fail
    go_returns
    exact ⟨⟨u, v, a, b, rfl, ha, hb, ea, eb, Hd1.out.mono (by omega), Hd2.out.mono (by omega)⟩, Hb5.out⟩
  | false =>
    go_wp2_with fail
    refine (vec_any w.heap.size _ _ Hc3.out (by omega) (by omega) (by omega)).mono ?_
    rintro e w4 ⟨⟨u, a, rfl, -, ha, ea, hd⟩, hc4, ho4⟩
    have hs4 := ho4.size
    have Hd := Lib.hid hd
    have Hc4 := Lib.hid hc4
    have Hb4 := Lib.hid (own_below Hb3.out ho4 (by omega))
    clear hd hc4 ho4 Hc3 Hb3
    go_wp2_with fail
    refine (vec_any w.heap.size _ _ Hc4.out (by omega) (by omega) (by omega)).mono ?_
    rintro e w5 ⟨⟨v, b, rfl, -, hb, eb, hd⟩, hc5, ho5⟩
    have hs5 := ho5.size
    have Hd1 := Lib.hid (Hd.out.own ho5 (by omega))
    have Hd2 := Lib.hid hd
    have Hb5 := Lib.hid (own_below Hb4.out ho5 (by omega))
    clear hd hc5 ho5 Hc4 Hb4 Hd
    go_wp2_with fail
    go_returns
    exact ⟨⟨u, v, a, b, rfl, ha, hb, ea, eb, Hd1.out.mono (by omega), Hd2.out.mono (by omega)⟩, Hb5.out⟩
set_option maxRecDepth 100000 in
set_option maxHeartbeats 3200000 in
theorem drawBasis (a0 : Option Addr) (len cap : Nat) (w : World) (hcode : CodeAt w w.heap.size a0 len) :
    Calls Try.prog 21 #[.slice a0 len cap] w fun e w' => (∃ n i : Int, e = .returned (.tuple #[.int .i64 n, .int .i64 i]) ∧ -1 ≤ n ∧ n ≤ 5 ∧ -1 ≤ i ∧ i ≤ 16) ∧ Below w.heap.size w w' := by
  have Hcode := Lib.hid hcode
  clear hcode
  go_enter Try.func21, Try.ntmps21
  go_wp2_with fail
  refine (new_any a0 len cap _ Hcode.out).mono ?_
  rintro e w1 ⟨rfl, hc1, hb1, hz1⟩
  have Hc1 := Lib.hid hc1
  have Hb1 := Lib.hid hb1
  clear hc1 hb1
  go_wp2_with fail
  refine (below_any w.heap.size 7 _ Hc1.out (by omega) (by omega)).mono ?_
  rintro e w2 ⟨⟨x, x0, x1, rfl⟩, hc2, ho2⟩
  have hs2 := ho2.size
  have Hc2 := Lib.hid hc2
  have Hb2 := Lib.hid (own_below Hb1.out ho2 (by omega))
  clear hc2 ho2 Hc1 Hb1
  go_wp2_with fail
  have hl : ListAt (w2.alloc (.cells #[.int .i64 0, .int .i64 1, .int .i64 2, .int .i64 3, .int .i64 7, .int .i64 8, .int .i64 15, .int .i64 16, .int .i64 (-1)] 3)) w2.heap.size 9 (fun j => .int .i64 ([0, 1, 2, 3, 7, 8, 15, 16, -1].getD j 0)) := by
    intro j hj
    rcases (show j = 0 ∨ j = 1 ∨ j = 2 ∨ j = 3 ∨ j = 4 ∨ j = 5 ∨ j = 6 ∨ j = 7 ∨ j = 8 by omega) with rfl | rfl | rfl | rfl | rfl | rfl | rfl | rfl | rfl <;> exact cell_at (heap_alloc_new _ _) _ _ rfl
  refine (pickB w.heap.size w2.heap.size 9 9 _ _ (Hc2.out.own (own_alloc (own_refl w2.heap.size w2) _) (by omega)) hl (by omega) (by omega) (by omega) rfl (-1) 16 (by decide)).mono ?_
  rintro e w3 ⟨⟨i, i0, i1, rfl⟩, hc3, ho3⟩
  have Hb3 := Lib.hid (own_below (Hb2.out.alloc (by omega) _) ho3 (by simp; omega))
  clear hc3 ho3 hl
  go_wp2_with fail
  go_returns
  exact ⟨⟨_, i, rfl, by omega, by omega, i0, i1⟩, Hb3.out⟩
end Go.Proofs.Ytbohbhhgmglcdaa
