/- The model's draws over permutations. -/
import Derived.Test.YtfmgjhaofbdlpaaBaseB14
import Derived.Test.YtfmgjhaofbdlpaaBaseB15
import Derived.Deep.Onto
namespace Go.Proofs.Ytfmgjhaofbdlpaa
open Go.RowKit
def plist : List Int := [0, 1, 4, -1, 9223372036854775807]
theorem Ei_set {l : List Int} (h : Ei l) (j : Nat) {y : Int} (hy : -9223372036854775808 ≤ y ∧ y ≤ 9223372036854775807) : Ei (l.set j y) := fun x hx => by
  rcases List.mem_or_eq_of_mem_set hx with k | rfl
  · exact h x k
  · exact hy
theorem Ei_of {l : List Int} {n : Nat} (h : ∀ x ∈ l, 0 ≤ x ∧ x < (n : Int)) (hn : n ≤ 4) : Ei l := fun x hx => by have := h x hx; omega
attribute [local irreducible] World.cell?
set_option maxRecDepth 100000 in
set_option maxHeartbeats 6400000 in
theorem bentP (B : Nat) (w : World) (hcur : CurAt w B) (hB : B < w.heap.size) :
    Calls Try.prog 42 #[.pointer (some ⟨B, 0, none⟩)] w fun e w' => (∃ v l, e = .returned v ∧ List.length l ≤ 5 ∧ Ei l ∧ intE.Sl w' w.heap.size v l) ∧ CurAt w' B ∧ Own B w w' := by
  obtain ⟨i0, hi, hz0, hz1, hz2⟩ := info_parts infoInt
  go_enter Try.func42, Try.ntmps42
  go_wp2_with fail
  refine (below_any B 4 _ hcur (by omega) (by omega)).mono ?_
  rintro e w1 ⟨⟨x, x0, x1, rfl⟩, hc1, ho1⟩
  obtain ⟨n, rfl⟩ : ∃ n : Nat, x = n := ⟨x.toNat, by omega⟩
  have hs1 := ho1.size
  have Hc1 := Lib.hid hc1
  have Ho1 := Lib.hid ho1
  have HP := Lib.hid (permO_any B (1 + n) w1 hc1 (by omega) (by omega) (by omega))
  rw [show ((1 + n : Nat) : Int) = 1 + (n : Int) by simp] at HP
  clear hc1 ho1 hcur
  go_wp2_with fail
  refine (HP.out).mono ?_
  rintro e w2 ⟨⟨g, cap, l, rfl, hl, hbd, hg, hown⟩, hc2, ho2⟩
  have hs2 := ho2.size
  have Hc2 := Lib.hid hc2
  have Ho2 := Lib.hid (own_trans Ho1.out ho2)
  have He := Lib.hid (Ei_of (n := 1 + n) (l := l) (fun x hx => by have := hbd x hx; omega) (by omega))
  have Hown2 := Lib.hid (hown.mono (base' := w.heap.size) hs1)
  clear hc2 ho2 Hc1 Ho1 hown hbd HP
  go_wp2_with fail
  refine (below_any B 8 _ Hc2.out (by omega) (by omega)).mono ?_
  rintro e w3 ⟨⟨y, y0, y1, rfl⟩, hc3, ho3⟩
  have hs3 := ho3.size
  have Hown3 := Lib.hid (own_keep Hown2.out ho3 hB)
  have Hc3 := Lib.hid hc3
  have Ho3 := Lib.hid (own_trans Ho2.out ho3)
  have hgw : w.heap.size ≤ g := by omega
  clear hc3 ho3 Hc2 Ho2 Hown2
  have hcapl : 1 + n ≤ cap := by
    rcases Hown3.out.2 with ⟨h, _⟩ | ⟨g', cap', cur, hv, _, _, hn, _⟩
    · cases h
    · injection hv with _ _ e3; omega
  by_cases h0 : y = 0
  · subst h0
    go_wp2_with fail
    refine (below_any B (1 + (n : Int)) _ Hc3.out (by omega) (by omega)).mono ?_
    rintro e w4 ⟨⟨k, k0, k1, rfl⟩, hc4, ho4⟩
    obtain ⟨k, rfl⟩ : ∃ n : Nat, k = n := ⟨k.toNat, by omega⟩
    have hs4 := ho4.size
    have Hown4 := Lib.hid (own_keep Hown3.out ho4 hB)
    have Hc4 := Lib.hid (hc4.below (w' := w4.alloc (.cells #[.int .i64 0, .int .i64 1, .int .i64 4, .int .i64 (-1), .int .i64 9223372036854775807] 3)) (C := w4.heap.size) (by go_grown) (by omega))
    have Ho4 := Lib.hid (own_alloc (own_trans Ho3.out ho4) (.cells #[.int .i64 0, .int .i64 1, .int .i64 4, .int .i64 (-1), .int .i64 9223372036854775807] 3))
    have Hl4 := Lib.hid (show ListAt (w4.alloc (.cells #[.int .i64 0, .int .i64 1, .int .i64 4, .int .i64 (-1), .int .i64 9223372036854775807] 3)) w4.heap.size 5 (fun j => .int .i64 (plist.getD j 0)) from fun j hj => by
      have hb := heap_alloc_new w4 (.cells #[.int .i64 0, .int .i64 1, .int .i64 4, .int .i64 (-1), .int .i64 9223372036854775807] 3)
      rcases (show j = 0 ∨ j = 1 ∨ j = 2 ∨ j = 3 ∨ j = 4 by omega) with rfl | rfl | rfl | rfl | rfl <;> exact cell_at hb _ _ rfl)
    have HownA := Lib.hid (Hown4.out.alloc (.cells #[.int .i64 0, .int .i64 1, .int .i64 4, .int .i64 (-1), .int .i64 9223372036854775807] 3))
    clear hc4 ho4 Hc3 Ho3 Hown3 Hown4
    go_wp2_with fail
    refine (pickInt_any B w4.heap.size 5 _ (fun j => plist.getD j 0) _ Hc4.out Hl4.out (by omega) (by omega) (by omega)).mono ?_
    rintro e w5 ⟨⟨q, hq, rfl⟩, hc5, ho5⟩
    obtain ⟨z, hz⟩ : ∃ z, z = plist.getD q 0 := ⟨_, rfl⟩
    have hze : -9223372036854775808 ≤ z ∧ z ≤ 9223372036854775807 := by
      rw [hz]
      rcases (show q = 0 ∨ q = 1 ∨ q = 2 ∨ q = 3 ∨ q = 4 by omega) with rfl | rfl | rfl | rfl | rfl <;> decide
    have hs5 := ho5.size
    have Hown5 := Lib.hid (own_keep HownA.out ho5 hB)
    have hr5 := own_row Hown5.out hl
    obtain ⟨u, hu⟩ : ∃ u, l[k]? = some u := ⟨l[k]'(by omega), List.getElem?_eq_getElem _⟩
    have c0 := IRow.cell hr5 hu
    have f1 := fun o => hr5.free o
    have hgl := hr5.lt
    have Hr6 := Lib.hid (IRow.put hr5 (j := k) (by omega) z)
    have Ho5 := Lib.hid (own_trans Ho4.out ho5)
    have Ho6 := Lib.hid (own_dn Ho5.out k (.int .i64 z) hgw)
    have Hc6 := Lib.hid (hc5.own (C := g) (own_set (own_refl g w5) k (.int .i64 z)) (by omega))
    have hzs : plist.getD q 0 = z := hz.symm
    clear hc5 ho5 Hc4 Ho4 HownA hr5 hu Ho5 Hown5 hz Hl4
    simp only [hzs]
    go_wp2_with fail
    go_ret
    exact ⟨⟨_, l.set k z, rfl, by rw [List.length_set]; omega, Ei_set He.out k hze, Enc.Sl.mk (by rw [List.length_set, hl]) hcapl hgw Hr6.out⟩, Hc6.out, Ho6.out⟩
  · by_cases h1 : y = 1
    · subst h1
      go_wp2_with fail
      refine (below_any B (1 + (n : Int)) _ Hc3.out (by omega) (by omega)).mono ?_
      rintro e w4 ⟨⟨k, k0, k1, rfl⟩, hc4, ho4⟩
      obtain ⟨k, rfl⟩ : ∃ n : Nat, k = n := ⟨k.toNat, by omega⟩
      have hs4 := ho4.size
      have Hown4 := Lib.hid (own_keep Hown3.out ho4 hB)
      have Hr4 := Lib.hid ((own_row Hown4.out hl).take k)
      have Hc4 := Lib.hid hc4
      have Ho4 := Lib.hid (own_trans Ho3.out ho4)
      clear hc4 ho4 Hc3 Ho3 Hown3
      go_wp2_with fail
      go_ret
      exact ⟨⟨_, l.take k, rfl, by rw [List.length_take]; omega, fun x hx => He.out x (List.mem_of_mem_take hx), Enc.Sl.mk (by rw [List.length_take]; omega) (by omega) hgw Hr4.out⟩, Hc4.out, Ho4.out⟩
    · have e0 : (y == 0) = false := by simpa using h0
      have e1 : (y == 1) = false := by simpa using h1
      by_cases h2 : y = 2
      · subst h2
        have Hnew := Lib.hid (Enc.new_row (E := intE) w3 (1 + (n : Int)) #[.int .i64 (1 + (n : Int))] rfl)
        go_wp2_with (first
          | (at_builtin; refine wpList_append_own _ rfl _ _ 24 rfl w.heap.size 3 i0 (.int .i64 0) 1 8 Try.underlying24 hi hz0 hz1 hz2 rfl (by decide) _ _ _ rfl (Hown3.out.alloc _) ⟨w3.heap.size, 0, none⟩ 1 1 [.int .i64 (1 + (n : Int))] rfl rfl Hnew.out (one_int _) ?d3 ?d4 ?d5 ?_))
        case d3 => unfold maxLen; omega
        case d4 => omega
        case d5 => first | omega | (simp; omega)
        intro v' w4 hown' hgrow _
        have Hs4 := Lib.hid (Enc.Sl.of_own (E := intE) (l := l ++ [1 + (n : Int)]) (by rw [List.length_append, hl, intE.flat_app]; exact hown'))
        have Ho4 := Lib.hid (own_alloc Ho3.out (.cells #[.int .i64 (1 + (n : Int))] 3))
        have Ho5 := Lib.hid (show Own B w w4 from ⟨hgrow.os.trans Ho4.out.os, hgrow.tape.trans Ho4.out.tape, hgrow.output.trans Ho4.out.output, Nat.le_trans Ho4.out.size hgrow.size, fun k hk hne => (hgrow.block k (Nat.lt_of_lt_of_le hk Ho4.out.size) (by intro e; simp [Value.ownBlock] at e; omega)).trans (Ho4.out.block k hk hne)⟩)
        have Hc4 := Lib.hid (show CurAt w4 B from (Hc3.out.below (w' := w3.alloc (.cells #[.int .i64 (1 + (n : Int))] 3)) (C := w3.heap.size) (by go_grown) (by omega)).own (C := g) hgrow (by omega))
        clear hown' hgrow
        go_wp2_with fail
        go_ret
        exact ⟨⟨_, l ++ [1 + (n : Int)], rfl, by rw [List.length_append, hl]; simp; omega, fun x hx => by
          rcases List.mem_append.1 hx with h | h
          · exact He.out x h
          · simp at h; omega, Hs4.out⟩, Hc4.out, Ho5.out⟩
      · have e2 : (y == 2) = false := by simpa using h2
        have Hr3 := Lib.hid (own_row Hown3.out hl)
        go_wp2_with fail
        go_ret
        exact ⟨⟨_, l, rfl, by omega, He.out, Enc.Sl.mk hl.symm hcapl hgw Hr3.out⟩, Hc3.out, Ho3.out⟩
theorem own_sl {w : World} {base n : Nat} {v : Value} {l : List Int} (h : w.ownsRow base 3 1 v n (intE.flat l)) (hl : l.length = n) : intE.Sl w base v l := Enc.Sl.of_own (E := intE) (by rw [hl]; exact h)
theorem perm_sl (B : Nat) (x : Int) (w : World) (hcur : CurAt w B) (hB : B < w.heap.size) (x0 : 0 ≤ x) (x1 : x < 4) :
    Calls Try.prog 43 #[.pointer (some ⟨B, 0, none⟩), .int .i64 (1 + x)] w fun e w' => (∃ v l, e = .returned v ∧ List.length l ≤ 5 ∧ Ei l ∧ intE.Sl w' w.heap.size v l) ∧ CurAt w' B ∧ Own B w w' := by
  obtain ⟨n, rfl⟩ : ∃ n : Nat, x = n := ⟨x.toNat, by omega⟩
  have HP := permO_any B (1 + n) w hcur hB (by omega) (by omega)
  rw [show ((1 + n : Nat) : Int) = 1 + (n : Int) by simp] at HP
  refine HP.mono ?_
  rintro e w2 ⟨⟨g, cap, l, rfl, hl, hbd, hg, hown⟩, hc2, ho2⟩
  exact ⟨⟨_, l, rfl, by omega, Ei_of (n := 1 + n) (l := l) (fun x hx => by have := hbd x hx; omega) (by omega), own_sl hown hl⟩, hc2, ho2⟩
set_option maxRecDepth 100000 in
set_option maxHeartbeats 3200000 in
theorem drawCmpP (a0 : Option Addr) (len cap : Nat) (w : World) (hcode : CodeAt w w.heap.size a0 len) :
    Calls Try.prog 13 #[.slice a0 len cap] w fun e w' => (∃ u v p q, e = .returned (.tuple #[u, v]) ∧ List.length p ≤ 5 ∧ List.length q ≤ 5 ∧ Ei p ∧ Ei q ∧ intE.Sl w' w.heap.size u p ∧ intE.Sl w' w.heap.size v q) ∧ Below w.heap.size w w' := by
  have Hcode := Lib.hid hcode
  clear hcode
  go_enter Try.func13, Try.ntmps13
  go_wp2_with fail
  refine (new_any a0 len cap _ Hcode.out).mono ?_
  rintro e w1 ⟨rfl, hc1, hb1, hz1⟩
  have Hc1 := Lib.hid hc1
  have Hb1 := Lib.hid hb1
  clear hc1 hb1
  go_wp2_with fail
  refine (below_any w.heap.size 4 _ Hc1.out (by omega) (by omega)).mono ?_
  rintro e w2 ⟨⟨x, x0, x1, rfl⟩, hc2, ho2⟩
  have hs2 := ho2.size
  have Hc2 := Lib.hid hc2
  have Hb2 := Lib.hid (own_below Hb1.out ho2 (by omega))
  clear hc2 ho2 Hc1 Hb1
  go_wp2_with fail
  refine (once_any w.heap.size 4 _ Hc2.out (by omega) (by omega)).mono ?_
  rintro e w3 ⟨⟨t, rfl⟩, hc3, ho3⟩
  have hs3 := ho3.size
  have Hc3 := Lib.hid hc3
  have Hb3 := Lib.hid (own_below Hb2.out ho3 (by omega))
  clear hc3 ho3 Hc2 Hb2
  cases t with
  | true =>
    go_wp2_with fail
    refine (bentP w.heap.size _ Hc3.out (by omega)).mono ?_
    rintro e w4 ⟨⟨u, a, rfl, ha, ea, hd⟩, hc4, ho4⟩
    have hs4 := ho4.size
    have Hd := Lib.hid hd
    have Hc4 := Lib.hid hc4
    have Hb4 := Lib.hid (own_below Hb3.out ho4 (by omega))
    clear hd hc4 ho4 Hc3 Hb3
    go_wp2_with fail
    refine (bentP w.heap.size _ Hc4.out (by omega)).mono ?_
    rintro e w5 ⟨⟨v, b, rfl, hb, eb, hd⟩, hc5, ho5⟩
    have hs5 := ho5.size
    have Hd1 := Lib.hid (Hd.out.own ho5 (by omega))
    have Hd2 := Lib.hid hd
    have Hb5 := Lib.hid (own_below Hb4.out ho5 (by omega))
    clear hd hc5 ho5 Hc4 Hb4 Hd
    go_wp2_with fail
    go_returns
    exact ⟨⟨u, v, a, b, rfl, ha, hb, ea, eb, Hd1.out.mono (by omega), Hd2.out.mono (by omega)⟩, Hb5.out⟩
  | false =>
    go_wp2_with fail
    refine (perm_sl w.heap.size x _ Hc3.out (by omega) (by omega) (by omega)).mono ?_
    rintro e w4 ⟨⟨u, a, rfl, ha, ea, hd⟩, hc4, ho4⟩
    have hs4 := ho4.size
    have Hd := Lib.hid hd
    have Hc4 := Lib.hid hc4
    have Hb4 := Lib.hid (own_below Hb3.out ho4 (by omega))
    clear hd hc4 ho4 Hc3 Hb3
    go_wp2_with fail
    refine (perm_sl w.heap.size x _ Hc4.out (by omega) (by omega) (by omega)).mono ?_
    rintro e w5 ⟨⟨v, b, rfl, hb, eb, hd⟩, hc5, ho5⟩
    have hs5 := ho5.size
    have Hd1 := Lib.hid (Hd.out.own ho5 (by omega))
    have Hd2 := Lib.hid hd
    have Hb5 := Lib.hid (own_below Hb4.out ho5 (by omega))
    clear hd hc5 ho5 Hc4 Hb4 Hd
    go_wp2_with fail
    go_returns
    exact ⟨⟨u, v, a, b, rfl, ha, hb, ea, eb, Hd1.out.mono (by omega), Hd2.out.mono (by omega)⟩, Hb5.out⟩
set_option maxRecDepth 100000 in
set_option maxHeartbeats 1600000 in
theorem drawPm (a0 : Option Addr) (len cap : Nat) (w : World) (hcode : CodeAt w w.heap.size a0 len) :
    Calls Try.prog 24 #[.slice a0 len cap] w fun e w' => (∃ u p, e = .returned u ∧ List.length p ≤ 5 ∧ Ei p ∧ intE.Sl w' w.heap.size u p) ∧ Below w.heap.size w w' := by
  have Hcode := Lib.hid hcode
  clear hcode
  go_enter Try.func24, Try.ntmps24
  go_wp2_with fail
  refine (new_any a0 len cap _ Hcode.out).mono ?_
  rintro e w1 ⟨rfl, hc1, hb1, hz1⟩
  have Hc1 := Lib.hid hc1
  have Hb1 := Lib.hid hb1
  clear hc1 hb1
  go_wp2_with fail
  refine (bentP w.heap.size _ Hc1.out (by omega)).mono ?_
  rintro e w4 ⟨⟨u, a, rfl, ha, ea, hd⟩, hc4, ho4⟩
  have Hd := Lib.hid hd
  have Hb4 := Lib.hid (own_below Hb1.out ho4 (by omega))
  have hs1 := Hb1.out.size
  clear hd hc4 ho4 Hc1
  go_wp2_with fail
  go_ret
  exact ⟨⟨u, a, rfl, ha, ea, Hd.out.mono (by omega)⟩, Hb4.out⟩
end Go.Proofs.Ytfmgjhaofbdlpaa
