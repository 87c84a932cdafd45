/- Draws of circuits of the model that may be invalid. -/
import Derived.Test.YtadimihfbpkilaaGtF
import Derived.Test.YtadimihfbpkilaaBaseB21
import Derived.Test.YtadimihfbpkilaaCpU
import Derived.Test.YtadimihfbpkilaaBaseB07
import Derived.Test.YtadimihfbpkilaaBaseB12
import Derived.Deep.AppendLies
namespace Go.Proofs.Ytadimihfbpkilaa
open Go.RowKit
theorem hs_app (a b : List Gt) : hs (a ++ b) = hs a + hs b := by unfold hs; rw [List.map_append, List.sum_append]
theorem hs_one (g : Gt) : hs [g] ≤ 1 := hs_le [g]
theorem hs_X (k : Nat) : hs (List.replicate k (Gt.mk 1 0 0 0)) = 0 := by
  induction k with
  | zero => rfl
  | succ k ih => rw [List.replicate_succ, hs_cons, ih]; rfl
theorem own_mono {w : World} {base b' : Nat} {e : TypeId} {size : Nat} {v : Value} {n : Nat} {xs : List Value} (h : w.ownsRow base e size v n xs) (hb : b' ≤ base) : w.ownsRow b' e size v n xs := by
  obtain ⟨h1, h2⟩ := h
  refine ⟨h1, ?_⟩
  rcases h2 with h2 | ⟨g, cap, cur, a, b, c⟩
  · exact .inl h2
  · exact .inr ⟨g, cap, cur, a, by omega, c⟩
/-- The gates that are no GateX. -/
def nx (l : List Gt) : Nat := l.countP fun g => decide (g.k ≠ 1)
theorem nx_le (l : List Gt) : nx l ≤ l.length := List.countP_le_length
theorem nx_app (a b : List Gt) : nx (a ++ b) = nx a + nx b := List.countP_append
theorem nx_X (k : Nat) : nx (List.replicate k (Gt.mk 1 0 0 0)) = 0 := by simp [nx, List.countP_replicate]
/-- What a drawn circuit is. -/
def CiD (m : Nat) (n : Int) (l : List Gt) : Prop := (-1 ≤ n ∧ n ≤ 5) ∧ l.length ≤ 61 ∧ (∀ g ∈ l, GtI g) ∧ hs l ≤ m + 1
/-- The same, with the gates that are no GateX counted. -/
def CiDx (m : Nat) (n : Int) (l : List Gt) : Prop := CiD m n l ∧ nx l ≤ m + 1
attribute [local irreducible] World.cell?
set_option maxRecDepth 100000 in
set_option maxHeartbeats 12800000 in
theorem bentCx (B m : Nat) (w : World) (hcur : CurAt w B) (hB : B < w.heap.size) (hm : m ≤ 12) :
    Calls Try.prog 27 #[.pointer (some ⟨B, 0, none⟩), .int .i64 m] w fun e w' => (∃ n v l, e = .returned (.agg #[.int .i64 n, v]) ∧ CiDx m n l ∧ gtE.Sl w' w.heap.size v l) ∧ CurAt w' B ∧ Own B w w' := by
  obtain ⟨i0, hi, hz0, hz1, hz2⟩ := info_parts infoG3
  have HR := Lib.hid (heap_alloc_new w (.cells #[.int .i64 0, .slice none 0 0] 46))
  have Hb0 := Lib.hid (show Below w.heap.size w (w.alloc (.cells #[.int .i64 0, .slice none 0 0] 46)) by go_grown)
  have Hc0 := Lib.hid (hcur.below Hb0.out hB)
  have Ho0 := Lib.hid (show Own B w _ from own_of_below Hb0.out)
  have hRB : w.heap.size ≠ B := by omega
  clear hcur
  go_enter Try.func27, Try.ntmps27
  go_wp2_with fail
  refine (below_any B 3 _ Hc0.out (by omega) (by omega)).mono ?_
  rintro e w1 ⟨⟨x, x0, x1, rfl⟩, hc1, ho1⟩
  obtain ⟨x, rfl⟩ : ∃ q : Nat, x = q := ⟨x.toNat, by omega⟩
  have hs1 := ho1.size
  simp at hs1
  have Hc1 := Lib.hid hc1
  have HR1 := Lib.hid (own_blk ho1 hRB HR.out)
  have Ho1 := Lib.hid (own_trans Ho0.out ho1)
  have Hrt := Lib.hid (rightO_any B (x + 1) m w1 hc1 (by omega) (by omega) (by omega) (by omega))
  rw [show ((x + 1 : Nat) : Int) = 1 + (x : Int) by omega] at Hrt
  clear hc1 ho1 Hc0 Ho0 HR
  go_wp2_with fail
  refine (Hrt.out).mono ?_
  rintro e w2 ⟨⟨v, l, rfl, hl, hbd, hown⟩, hc2, ho2⟩
  obtain ⟨n, hn⟩ : ∃ n : Int, n = 1 + (x : Int) := ⟨_, rfl⟩
  rw [← hn]
  obtain ⟨nn, hnn, nn1, nn4⟩ : ∃ nn : Nat, n = nn ∧ 1 ≤ nn ∧ nn ≤ 4 := ⟨x + 1, by omega, by omega, by omega⟩
  subst hnn
  have hs2 := ho2.size
  have HR2 := Lib.hid (alloc_blk (.cells #[.int .i64 (nn : Int), v] 46) (own_blk ho2 hRB HR1.out))
  have HO2 := Lib.hid (heap_alloc_new w2 (.cells #[.int .i64 (nn : Int), v] 46))
  have hown := own_mono hown (show w1.heap.size ≤ w1.heap.size + 2 by omega)
  have Hown2 := Lib.hid (hown.alloc (.cells #[.int .i64 (nn : Int), v] 46))
  have Hc2 := Lib.hid (hc2.below (w' := w2.alloc (.cells #[.int .i64 (nn : Int), v] 46)) (C := w2.heap.size) (by go_grown) (by omega))
  have Ho2 := Lib.hid (own_alloc (own_trans Ho1.out ho2) (.cells #[.int .i64 (nn : Int), v] 46))
  have hOB : w2.heap.size ≠ B := by omega
  have hOR : w2.heap.size ≠ w.heap.size := by omega
  have Hbd := Lib.hid hbd
  have Hvk := Lib.hid (show ∀ k, v.ownBlock = some k → k ≠ w2.heap.size from fun k hk e => by have := (hown.lt k hk).2; omega)
  have hh := hs_le l
  have hx := nx_le l
  have hz3 := size_alloc1 w2 (.cells #[.int .i64 (nn : Int), v] 46)
  clear hc2 ho2 hown hbd Hc1 HR1 Ho1 Hrt hn x0 x1
  obtain ⟨p, c, rfl⟩ : ∃ p c, v = .slice p l.length c := by
    rcases Hown2.out.2 with ⟨rfl, h⟩ | ⟨g, cap, cur, rfl, _⟩
    · exact ⟨none, 0, by rw [h]⟩
    · exact ⟨_, _, rfl⟩
  go_wp2_with fail
  refine (below_any B 12 _ Hc2.out (by omega) (by omega)).mono ?_
  rintro e w3 ⟨⟨y, y0, y1, rfl⟩, hc3, ho3⟩
  have hs3 := ho3.size
  have Hc3 := Lib.hid hc3
  have HR3 := Lib.hid (own_blk ho3 hRB HR2.out)
  have HO3 := Lib.hid (own_blk ho3 hOB HO2.out)
  have Hown3 := Lib.hid (row_own Hown2.out ho3 (by omega))
  have Ho3 := Lib.hid (own_trans Ho2.out ho3)
  have hOl3 := lt_of_block HO3.out
  clear hc3 ho3 Hc2 HR2 HO2 Hown2 Ho2
  by_cases q0 : y = 0
  · subst q0
    have HL := Lib.hid (show ListAt (w3.alloc (.cells #[.int .i64 0, .int .i64 1, .int .i64 4, .int .i64 5, .int .i64 (-1)] 3)) w3.heap.size 5 (fun j => .int .i64 (([0, 1, 4, 5, -1] : List Int).getD j 0)) from fun j hj => by
      have hb := heap_alloc_new w3 (.cells #[.int .i64 0, .int .i64 1, .int .i64 4, .int .i64 5, .int .i64 (-1)] 3)
      rcases (show j = 0 ∨ j = 1 ∨ j = 2 ∨ j = 3 ∨ j = 4 by omega) with rfl | rfl | rfl | rfl | rfl <;> exact cell_at hb _ _ rfl)
    have Hc4 := Lib.hid (Hc3.out.below (w' := w3.alloc (.cells #[.int .i64 0, .int .i64 1, .int .i64 4, .int .i64 5, .int .i64 (-1)] 3)) (C := w3.heap.size) (by go_grown) (by omega))
    have HR4 := Lib.hid (alloc_blk (.cells #[.int .i64 0, .int .i64 1, .int .i64 4, .int .i64 5, .int .i64 (-1)] 3) HR3.out)
    have HO4 := Lib.hid (alloc_blk (.cells #[.int .i64 0, .int .i64 1, .int .i64 4, .int .i64 5, .int .i64 (-1)] 3) HO3.out)
    have Hown4 := Lib.hid (Hown3.out.alloc (.cells #[.int .i64 0, .int .i64 1, .int .i64 4, .int .i64 5, .int .i64 (-1)] 3))
    have Ho4 := Lib.hid (own_alloc Ho3.out (.cells #[.int .i64 0, .int .i64 1, .int .i64 4, .int .i64 5, .int .i64 (-1)] 3))
    clear Hc3 HR3 HO3 Hown3 Ho3
    go_wp2_with fail
    refine (pickB B w3.heap.size 5 _ [0, 1, 4, 5, -1] _ Hc4.out HL.out (by omega) (by omega) (by omega) rfl (-1) 5 (by decide)).mono ?_
    rintro e w5 ⟨⟨z, z0, z1, rfl⟩, hc5, ho5⟩
    have HR5 := own_blk ho5 hRB HR4.out
    have HO5 := own_blk ho5 hOB HO4.out
    have HRf := Lib.hid (set1_blk (o := 0) (u := .int .i64 z) (show w.heap.size ≠ w2.heap.size by omega) HR5)
    have Hcf := Lib.hid (hc5.own (C := w2.heap.size) (own_set (own_refl _ w5) 0 (.int .i64 z)) (by omega))
    have Hof := Lib.hid (own_dn (own_trans Ho4.out ho5) 0 (.int .i64 z) (show w.heap.size ≤ w2.heap.size by omega))
    have Hownf := Lib.hid (row_set1 (g := w2.heap.size) (off := 0) (u := .int .i64 z) (row_own Hown4.out ho5 (by omega)) Hvk.out)
    have hzz : -1 ≤ z ∧ z ≤ 5 := ⟨z0, z1⟩
    obtain ⟨o0, o1⟩ := blk_cells2 HO5
    have fO := fun o => free_at HO5 o
    have hOl := lt_of_block HO5
    clear hc5 ho5 Hc4 HR4 HO4 Hown4 Ho4 HR5 HO5 HL
    obtain ⟨r0, r1⟩ := blk_cells2 HRf.out
    have fR := fun o => free_at HRf.out o
    have hRl := lt_of_block HRf.out
    have Hsl := Lib.hid (Enc.Sl.of_own (E := gtE) (l := l) (by exact Hownf.out))
    have Hcid := Lib.hid (show CiDx m z (l) from ⟨⟨hzz, by omega, fun g hg => (Hbd.out g hg).i, by omega⟩, by omega⟩)
    go_wp2_with fail
    obtain ⟨k0', k1'⟩ := blk_cells2 (set2_at (u0 := .int .i64 z) (u1 := (.slice p l.length c)) HRf.out)
    refine bodyPost_ret (v := .agg #[.int .i64 z, (.slice p l.length c)]) (by simp only [results, Try.results27]; simp [go_sem, k0', k1']) rfl ?_
    first | refine ⟨⟨z, (.slice p l.length c), l, rfl, Hcid.out, ?_⟩, ?_, ?_⟩ | refine ⟨⟨z, (.slice p l.length c), rfl, l, Hcid.out, ?_⟩, ?_, ?_⟩
    · exact (sl_set1 (sl_set1 Hsl.out (by omega)) (by omega)).mono (by omega)
    · exact Hcf.out.own (C := w.heap.size) (own_set (own_set (own_refl w.heap.size _) 0 _) 1 _) hB
    · exact own_dn (own_dn Hof.out 0 _ (Nat.le_refl _)) 1 _ (Nat.le_refl _)
  by_cases q1 : y = 1
  · subst q1
    have Hmx := Lib.hid (fun W => max_any 1 (nn : Int) W)
    rw [show (if (nn : Int) < 1 then (1 : Int) else (nn : Int)) = nn from if_neg (by omega)] at Hmx
    have HRd := Lib.hid (show w3.drew.heap[w.heap.size]? = some (.cells #[.int .i64 0, .slice none 0 0] 46) from HR3.out)
    have HOd := Lib.hid (show w3.drew.heap[w2.heap.size]? = some (.cells #[.int .i64 (nn : Int), (.slice p l.length c)] 46 (0, 0)) from HO3.out)
    have Hod := Lib.hid Hown3.out.drew
    have Hbg := Lib.hid (bentG B nn w3.drew Hc3.out.drew (by show B < w3.heap.size; omega) nn1 nn4)
    obtain ⟨o0, o1⟩ := blk_cells2 HO3.out
    have fO := fun o => free_at HO3.out o
    have hOl := lt_of_block HO3.out
    go_upto_region 6 with fail
    go_region_law? (first
      | ((go_simp; go_at_call 48; (with_reducible refine (Hmx.out _).mono ?_); rintro e wM ⟨rfl, rfl⟩))
      | ((go_simp; go_at_call 47; (with_reducible refine (Hbg.out).mono ?_); rintro e w4 ⟨⟨g, rfl, hgi⟩, hc4, ho4⟩; have hO4 := own_blk ho4 hOB HOd.out; obtain ⟨p0, p1⟩ := blk_cells2 hO4; have fO4 := fun o => free_at hO4 o; have hOl4 := lt_of_block hO4; have Hown4 := Lib.hid (row_own Hod.out ho4 (by omega)); have hs4 := ho4.size))
      | ((refine step_append_lies _ (by rfl) _ _ _ (by rfl) (w1.heap.size) 30 i0 (.agg #[.int .i64 0, .int .i64 0, .int .i64 0, .int .i64 0]) 4 32 Try.underlying24 hi hz0 hz1 hz2 rfl (by decide) (.slice p l.length c) l.length (gtE.flat l) (by go_simp) (Hown4.out.alloc (.cells #[.int .i64 g.k, .int .i64 g.a, .int .i64 g.b, .int .i64 g.c] 30)) ⟨w4.heap.size, 0, none⟩ 1 1 (gtE.fl g) (by go_simp) rfl (Enc.new_row (E := gtE) w4 g _ rfl) (gtE.one g) (by decide) (by unfold maxLen; omega) (by omega) (by simp; omega) (w4.heap.size + 1) (by simp) ?_; intro gg cap w5 hown5 hgrow hat hlt5; have hO5 := grown_blk hgrow (alloc_blk (.cells #[.int .i64 g.k, .int .i64 g.a, .int .i64 g.b, .int .i64 g.c] 30) hO4) (fun e => Hvk.out _ e.symm rfl); obtain ⟨s0, s1⟩ := blk_cells2 hO5; have fO5 := fun o => free_at hO5 o; have hOl5 := lt_of_block hO5)))
    all_goals
      have hwd : w3.drew.heap.size = w3.heap.size := rfl
      have hR5 := grown_blk hgrow (alloc_blk (.cells #[.int .i64 g.k, .int .i64 g.a, .int .i64 g.b, .int .i64 g.c] 30) (own_blk ho4 hRB HRd.out)) (fun e => by have := (Hown4.out.lt _ e.symm).1; omega)
      have hb5 : Below (w1.heap.size) w4 w5 := ((Below.refl (w1.heap.size) w4).alloc (by omega) (.cells #[.int .i64 g.k, .int .i64 g.a, .int .i64 g.b, .int .i64 g.c] 30)).grown hgrow (by simp; omega) (fun q hq => (Hown4.out.lt q hq).1)
      have HRf := Lib.hid (set1_blk (o := 1) (u := .slice (some ⟨gg, 0, none⟩) (l.length + 1) cap) (show w.heap.size ≠ w2.heap.size by omega) hR5)
      have Hcf := Lib.hid ((hc4.below hb5 (by omega)).own (C := w2.heap.size) (own_set (own_refl _ w5) 1 (.slice (some ⟨gg, 0, none⟩) (l.length + 1) cap)) (by omega))
      have Hof := Lib.hid (own_dn (own_under (own_trans Ho3.out (show Own B w3 w4 from ⟨ho4.os, ho4.tape, ho4.output, ho4.size, ho4.block⟩)) hb5 (by omega)) 1 (.slice (some ⟨gg, 0, none⟩) (l.length + 1) cap) (show w.heap.size ≤ w2.heap.size by omega))
      rw [gtE.flat_snoc] at hown5
      have Hownf := Lib.hid (row_set1 (g := w2.heap.size) (off := 1) (u := .slice (some ⟨gg, 0, none⟩) (l.length + 1) cap) hown5 (fun k hk e => by have hk2 : gg = k := Option.some.inj hk; subst e; rw [hk2] at hat; rcases hat with h | h; (· exact Hvk.out _ h rfl); (· omega)))
      have hh1 := hs_app l [g]
      have hh2 := hs_one g
      have hl1 : (l ++ [g]).length = l.length + 1 := by simp
      have hx1 := nx_app l [g]
      have hx2 : nx [g] ≤ 1 := nx_le [g]
      have hcid : CiDx m (nn : Int) (l ++ [g]) := ⟨⟨by omega, by omega, fun q hq => by
        rcases List.mem_append.1 hq with hq | hq
        · exact (Hbd.out q hq).i
        · rw [List.mem_singleton.1 hq]; exact hgi, by omega⟩, by omega⟩
      clear hc4 ho4 Hc3 HR3 HO3 Hown3 Ho3 hR5 hb5 hown5
      obtain ⟨r0, r1⟩ := blk_cells2 HRf.out
      have fR := fun o => free_at HRf.out o
      have hRl := lt_of_block HRf.out
      have Hsl := Lib.hid (Enc.Sl.of_own (E := gtE) (l := (l ++ [g])) (by rw [hl1]; exact Hownf.out))
      have Hcid := Lib.hid (show CiDx m (nn : Int) ((l ++ [g])) from hcid)
      go_wp2_with fail
      obtain ⟨k0', k1'⟩ := blk_cells2 (set2_at (u0 := .int .i64 (nn : Int)) (u1 := (.slice (some ⟨gg, 0, none⟩) (l.length + 1) cap)) HRf.out)
      refine bodyPost_ret (v := .agg #[.int .i64 (nn : Int), (.slice (some ⟨gg, 0, none⟩) (l.length + 1) cap)]) (by simp only [results, Try.results27]; simp [go_sem, k0', k1']) rfl ?_
      first | refine ⟨⟨(nn : Int), (.slice (some ⟨gg, 0, none⟩) (l.length + 1) cap), (l ++ [g]), rfl, Hcid.out, ?_⟩, ?_, ?_⟩ | refine ⟨⟨(nn : Int), (.slice (some ⟨gg, 0, none⟩) (l.length + 1) cap), rfl, (l ++ [g]), Hcid.out, ?_⟩, ?_, ?_⟩
      · exact (sl_set1 (sl_set1 Hsl.out (by omega)) (by omega)).mono (by omega)
      · exact Hcf.out.own (C := w.heap.size) (own_set (own_set (own_refl w.heap.size _) 0 _) 1 _) hB
      · exact own_dn (own_dn Hof.out 0 _ (Nat.le_refl _)) 1 _ (Nat.le_refl _)
  by_cases q2 : y = 2
  · subst q2
    go_wp2_with fail
    refine (once_any B 6 _ Hc3.out (by omega) (by omega)).mono ?_
    rintro e w4 ⟨⟨b, rfl⟩, hc4, ho4⟩
    have hs4 := ho4.size
    have Hc4 := Lib.hid hc4
    have HR4 := Lib.hid (own_blk ho4 hRB HR3.out)
    have HO4 := Lib.hid (own_blk ho4 hOB HO3.out)
    have Hown4 := Lib.hid (row_own Hown3.out ho4 (by omega))
    have Ho4 := Lib.hid (own_trans Ho3.out ho4)
    clear hc4 ho4 Hc3 HR3 HO3 Hown3 Ho3
    cases b with
    | false =>
      obtain ⟨o0, o1⟩ := blk_cells2 HO4.out
      have fO := fun o => free_at HO4.out o
      have hOl := lt_of_block HO4.out
      obtain ⟨r0, r1⟩ := blk_cells2 HR4.out
      have fR := fun o => free_at HR4.out o
      have hRl := lt_of_block HR4.out
      have Hsl := Lib.hid (Enc.Sl.of_own (E := gtE) (l := l) (by exact Hown4.out))
      have Hcid := Lib.hid (show CiDx m (nn : Int) (l) from ⟨⟨by omega, by omega, fun g hg => (Hbd.out g hg).i, by omega⟩, by omega⟩)
      go_wp2_with fail
      obtain ⟨k0', k1'⟩ := blk_cells2 (set2_at (u0 := .int .i64 (nn : Int)) (u1 := (.slice p l.length c)) HR4.out)
      refine bodyPost_ret (v := .agg #[.int .i64 (nn : Int), (.slice p l.length c)]) (by simp only [results, Try.results27]; simp [go_sem, k0', k1']) rfl ?_
      first | refine ⟨⟨(nn : Int), (.slice p l.length c), l, rfl, Hcid.out, ?_⟩, ?_, ?_⟩ | refine ⟨⟨(nn : Int), (.slice p l.length c), rfl, l, Hcid.out, ?_⟩, ?_, ?_⟩
      · exact (sl_set1 (sl_set1 Hsl.out (by omega)) (by omega)).mono (by omega)
      · exact Hc4.out.own (C := w.heap.size) (own_set (own_set (own_refl w.heap.size _) 0 _) 1 _) hB
      · exact own_dn (own_dn Ho4.out 0 _ (Nat.le_refl _)) 1 _ (Nat.le_refl _)
    | true =>
      go_wp2_with fail
      go_loopg [] (61 - l.length) (fun mm wr => ∃ (k : Nat) (op : Option Addr) (oc : Nat), mm = 61 - (l.length + k) ∧ l.length + k ≤ 61 ∧ Hid (wr.ownsRow (w1.heap.size) 30 4 (.slice op (l.length + k) oc) (l.length + k) (gtE.flat (l ++ List.replicate k (Gt.mk 1 0 0 0)))) ∧ Hid (wr.heap[w2.heap.size]? = some (.cells #[.int .i64 (nn : Int), .slice op (l.length + k) oc] 46 (0, 0))) ∧ Hid (wr.heap[w.heap.size]? = some (.cells #[.int .i64 0, .slice none 0 0] 46)) ∧ Hid (CurAt wr B) ∧ Hid (Own B w wr) ∧ w4.heap.size ≤ wr.heap.size ∧ Hid (∀ q, (Value.slice op (l.length + k) oc).ownBlock = some q → q ≠ w2.heap.size))
      case atStart => exact ⟨0, p, c, rfl, by omega, by simpa using Hown4, HO4, HR4, Hc4, Ho4, Nat.le_refl _, Hvk⟩
      case round =>
        obtain ⟨k, op, oc, rfl, hk, Hown, HO, HR, Hc, Ho, hsz, Hvk2⟩ := hrel
        have HRd := Lib.hid (show wr.drew.heap[w.heap.size]? = some (.cells #[.int .i64 0, .slice none 0 0] 46) from HR.out)
        have HOd := Lib.hid (show wr.drew.heap[w2.heap.size]? = some (.cells #[.int .i64 (nn : Int), .slice op (l.length + k) oc] 46 (0, 0)) from HO.out)
        have Hod := Lib.hid Hown.out.drew
        have Hbl := Lib.hid (below_any B 3 wr.drew Hc.out.drew (by omega) (by omega))
        have hwd : wr.drew.heap.size = wr.heap.size := rfl
        obtain ⟨o0, o1⟩ := blk_cells2 HO.out
        have fO := fun o => free_at HO.out o
        have hOl := lt_of_block HO.out
        go_upto_region 9 with fail
        go_region_law? (first
          | ((go_simp; go_at_call 45; (with_reducible refine (Hbl.out).mono ?_); rintro e w5 ⟨⟨z, z0, z1, rfl⟩, hc5, ho5⟩; have hw59 : IntKind.i64.wrap (59 + z) = 59 + z := (by rw [IntKind.wrap_i64]; omega); have hO5 := own_blk ho5 hOB HOd.out; obtain ⟨p0, p1⟩ := blk_cells2 hO5; have hOl5 := lt_of_block hO5)))
        all_goals
          have HO5 := Lib.hid hO5
          have HR5 := Lib.hid (own_blk ho5 hRB HRd.out)
          have Hown5 := Lib.hid (row_own Hod.out ho5 (by omega))
          have Hc5 := Lib.hid hc5
          have Ho5 := Lib.hid (own_trans Ho.out (show Own B wr w5 from ⟨ho5.os, ho5.tape, ho5.output, ho5.size, ho5.block⟩))
          have hs5 := ho5.size
          clear hc5 ho5 hO5 Hown HO HR Hc Ho HRd HOd Hod o0 o1 fO hOl p0 p1
          by_cases hlt : (l.length : Int) + (k : Int) < 59 + z
          · have hlt' : decide ((l.length : Int) + (k : Int) < 59 + z) = true := decide_eq_true hlt
            obtain ⟨o0, o1⟩ := blk_cells2 HO5.out
            have fO := fun o => free_at HO5.out o
            have hOl := lt_of_block HO5.out
            go_wp2_with (first
              | (at_builtin; refine wpList_append_lies _ rfl _ _ 24 rfl (w1.heap.size) 30 i0 (.agg #[.int .i64 0, .int .i64 0, .int .i64 0, .int .i64 0]) 4 32 Try.underlying24 hi hz0 hz1 hz2 rfl (by decide) _ _ _ rfl (Hown5.out.alloc _) ⟨w5.heap.size, 0, none⟩ 1 1 (gtE.fl (Gt.mk 1 0 0 0)) rfl rfl (Enc.new_row (E := gtE) w5 (Gt.mk 1 0 0 0) _ rfl) (gtE.one _) (by decide) ?d3 ?d4 ?d5 (w5.heap.size + 1) (by simp) ?_))
            case d3 => unfold maxLen; omega
            case d4 => omega
            case d5 => first | omega | (simp; omega)
            intro gg cap w6 hown6 hgrow hat hlt6
            have hne : ∀ q, (Value.slice op (l.length + k) oc).ownBlock = some q → q ≠ w2.heap.size := Hvk2.out
            have hO6 := grown_blk hgrow (alloc_blk (.cells #[.int .i64 (Gt.mk 1 0 0 0).k, .int .i64 (Gt.mk 1 0 0 0).a, .int .i64 (Gt.mk 1 0 0 0).b, .int .i64 (Gt.mk 1 0 0 0).c] 30) HO5.out) (fun e => hne _ e.symm rfl)
            have hR6 := grown_blk hgrow (alloc_blk (.cells #[.int .i64 (Gt.mk 1 0 0 0).k, .int .i64 (Gt.mk 1 0 0 0).a, .int .i64 (Gt.mk 1 0 0 0).b, .int .i64 (Gt.mk 1 0 0 0).c] 30) HR5.out) (fun e => by have := (Hown5.out.lt _ e.symm).1; omega)
            have hb6 : Below w1.heap.size w5 w6 := ((Below.refl w1.heap.size w5).alloc (by omega) (.cells #[.int .i64 (Gt.mk 1 0 0 0).k, .int .i64 (Gt.mk 1 0 0 0).a, .int .i64 (Gt.mk 1 0 0 0).b, .int .i64 (Gt.mk 1 0 0 0).c] 30)).grown hgrow (by simp; omega) (fun q hq => (Hown5.out.lt q hq).1)
            rw [gtE.flat_snoc, List.append_assoc, ← List.replicate_succ'] at hown6
            have Hown6 := Lib.hid hown6
            have HO6 := Lib.hid hO6
            have HR6 := Lib.hid hR6
            have Hc6 := Lib.hid (Hc5.out.below hb6 (by omega))
            have Ho6 := Lib.hid (own_under Ho5.out hb6 (by omega))
            have hs6 := hb6.size
            have Hg6 := Lib.hid (show gg ≠ w2.heap.size from by
              rcases hat with h | h
              · exact hne _ h
              · omega)
            obtain ⟨q0, q1⟩ := blk_cells2 HO6.out
            have fO6 := fun o => free_at HO6.out o
            have hOl6 := lt_of_block HO6.out
            clear hown6 hgrow hat hO6 hR6 hb6 o0 o1 fO hOl hne
            go_wp2_with fail
            go_roundg (61 - (l.length + (k + 1)))
            case measure => omega
            case rel =>
              refine ⟨k + 1, some ⟨gg, 0, none⟩, cap, rfl, by omega, ?_, ?_, ?_, ?_, ?_, ?_, ?_⟩
              · exact row_set1 Hown6.out (fun q hq => by have : gg = q := Option.some.inj hq; subst this; exact Hg6.out)
              · exact heap_set HO6.out 1 (.slice (some ⟨gg, 0, none⟩) (l.length + (k + 1)) cap)
              · exact set1_blk (by omega) HR6.out
              · exact Lib.hid (Hc6.out.own (C := w2.heap.size) (own_set (own_refl _ w6) 1 _) (by omega))
              · exact Lib.hid (own_dn Ho6.out 1 _ (show w.heap.size ≤ w2.heap.size by omega))
              · simp [World.setCell]; omega
              · exact fun q hq => by have : gg = q := Option.some.inj hq; subst this; exact Hg6.out
          · have hlt' : decide ((l.length : Int) + (k : Int) < 59 + z) = false := decide_eq_false hlt
            have hcid : CiDx m (nn : Int) (l ++ List.replicate k (Gt.mk 1 0 0 0)) := ⟨⟨by omega, by simp; omega, fun q hq => by
              rcases List.mem_append.1 hq with hq | hq
              · exact (Hbd.out q hq).i
              · rw [(List.mem_replicate.1 hq).2]; unfold GtI; decide, by rw [hs_app, hs_X]; omega⟩, by rw [nx_app, nx_X]; omega⟩
            have hl1 : (l ++ List.replicate k (Gt.mk 1 0 0 0)).length = l.length + k := by simp
            obtain ⟨o0, o1⟩ := blk_cells2 HO5.out
            have fO := fun o => free_at HO5.out o
            have hOl := lt_of_block HO5.out
            obtain ⟨r0, r1⟩ := blk_cells2 HR5.out
            have fR := fun o => free_at HR5.out o
            have hRl := lt_of_block HR5.out
            have Hsl := Lib.hid (Enc.Sl.of_own (E := gtE) (l := (l ++ List.replicate k (Gt.mk 1 0 0 0))) (by rw [hl1]; exact Hown5.out))
            have Hcid := Lib.hid (show CiDx m (nn : Int) ((l ++ List.replicate k (Gt.mk 1 0 0 0))) from hcid)
            go_wp2_with fail
            obtain ⟨k0', k1'⟩ := blk_cells2 (set2_at (u0 := .int .i64 (nn : Int)) (u1 := (.slice op (l.length + k) oc)) HR5.out)
            refine bodyPost_ret (v := .agg #[.int .i64 (nn : Int), (.slice op (l.length + k) oc)]) (by simp only [results, Try.results27]; simp [go_sem, k0', k1']) rfl ?_
            first | refine ⟨⟨(nn : Int), (.slice op (l.length + k) oc), (l ++ List.replicate k (Gt.mk 1 0 0 0)), rfl, Hcid.out, ?_⟩, ?_, ?_⟩ | refine ⟨⟨(nn : Int), (.slice op (l.length + k) oc), rfl, (l ++ List.replicate k (Gt.mk 1 0 0 0)), Hcid.out, ?_⟩, ?_, ?_⟩
            · exact (sl_set1 (sl_set1 Hsl.out (by omega)) (by omega)).mono (by omega)
            · exact Hc5.out.own (C := w.heap.size) (own_set (own_set (own_refl w.heap.size _) 0 _) 1 _) hB
            · exact own_dn (own_dn Ho5.out 0 _ (Nat.le_refl _)) 1 _ (Nat.le_refl _)
  have e0 : (y == 0) = false := by simpa using q0
  have e1 : (y == 1) = false := by simpa using q1
  have e2 : (y == 2) = false := by simpa using q2
  obtain ⟨o0, o1⟩ := blk_cells2 HO3.out
  have fO := fun o => free_at HO3.out o
  have hOl := lt_of_block HO3.out
  obtain ⟨r0, r1⟩ := blk_cells2 HR3.out
  have fR := fun o => free_at HR3.out o
  have hRl := lt_of_block HR3.out
  have Hsl := Lib.hid (Enc.Sl.of_own (E := gtE) (l := l) (by exact Hown3.out))
  have Hcid := Lib.hid (show CiDx m (nn : Int) (l) from ⟨⟨by omega, by omega, fun g hg => (Hbd.out g hg).i, by omega⟩, by omega⟩)
  go_wp2_with fail
  obtain ⟨k0', k1'⟩ := blk_cells2 (set2_at (u0 := .int .i64 (nn : Int)) (u1 := (.slice p l.length c)) HR3.out)
  refine bodyPost_ret (v := .agg #[.int .i64 (nn : Int), (.slice p l.length c)]) (by simp only [results, Try.results27]; simp [go_sem, k0', k1']) rfl ?_
  first | refine ⟨⟨(nn : Int), (.slice p l.length c), l, rfl, Hcid.out, ?_⟩, ?_, ?_⟩ | refine ⟨⟨(nn : Int), (.slice p l.length c), rfl, l, Hcid.out, ?_⟩, ?_, ?_⟩
  · exact (sl_set1 (sl_set1 Hsl.out (by omega)) (by omega)).mono (by omega)
  · exact Hc3.out.own (C := w.heap.size) (own_set (own_set (own_refl w.heap.size _) 0 _) 1 _) hB
  · exact own_dn (own_dn Ho3.out 0 _ (Nat.le_refl _)) 1 _ (Nat.le_refl _)
theorem bentC (B m : Nat) (w : World) (hcur : CurAt w B) (hB : B < w.heap.size) (hm : m ≤ 12) :
    Calls Try.prog 27 #[.pointer (some ⟨B, 0, none⟩), .int .i64 m] w fun e w' => (∃ n v l, e = .returned (.agg #[.int .i64 n, v]) ∧ CiD m n l ∧ gtE.Sl w' w.heap.size v l) ∧ CurAt w' B ∧ Own B w w' :=
  (bentCx B m w hcur hB hm).mono fun _ _ ⟨⟨n, v, l, h1, h2, h3⟩, h4⟩ => ⟨⟨n, v, l, h1, h2.1, h3⟩, h4⟩
end Go.Proofs.Ytadimihfbpkilaa
