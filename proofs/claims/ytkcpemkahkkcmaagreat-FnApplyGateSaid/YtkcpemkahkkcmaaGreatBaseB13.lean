/- BaseB13: several of our texts in one: DsC DsE ApKc. -/
import Derived.Test.YtkcpemkahkkcmaaGreatBaseB14
import Derived.Test.YtkcpemkahkkcmaaGreatDwA
import Derived.Test.YtkcpemkahkkcmaaGreatDwB
namespace Go.Proofs.YtkcpemkahkkcmaaGreat
open Go.RowKit
theorem fl_new (w : World) (y : Dw) (t : TypeId) : ∀ j u, (fl y)[j]? = some u → (w.alloc (.cells #[.int .i64 y.n.a, .int .i64 y.n.b, .int .i64 y.n.c, .int .i64 y.n.d, .int .i64 y.e] t)).cell? ((⟨w.heap.size, 0, none⟩ : Addr).add j) = some u := by
  intro j u hj
  match j, hj with
  | 0, hj => simp [fl] at hj; subst hj; simp [Addr.add]
  | 1, hj => simp [fl] at hj; subst hj; simp [Addr.add]
  | 2, hj => simp [fl] at hj; subst hj; simp [Addr.add]
  | 3, hj => simp [fl] at hj; subst hj; simp [Addr.add]
  | 4, hj => simp [fl] at hj; subst hj; simp [Addr.add]
  | j + 5, hj => simp [fl] at hj
theorem own_new {w : World} {n : Nat} {t : TypeId} (h : n = w.heap.size) : (w.alloc (.cells #[] t)).ownsRow n t 5 (.slice (some ⟨n, 0, none⟩) 0 0) 0 (flat []) := by
  subst h; exact World.ownsRow_lit w #[] 0 (Nat.le_refl _) (Nat.zero_le _) rfl
theorem fl_plain (y : Dw) : ∀ u ∈ fl y, u.oneCell' = true := by
  intro u hu
  simp [fl] at hu
  rcases hu with rfl | rfl | rfl | rfl | rfl <;> rfl
attribute [local irreducible] World.cell?
end Go.Proofs.YtkcpemkahkkcmaaGreat
namespace Go.Proofs.YtkcpemkahkkcmaaGreat
open Go.RowKit
theorem below_dn {B : Nat} {a w : World} (h : Below B a w) (n : Nat) : Below B a (w.drewN n) := h.trans ⟨rfl, rfl, rfl, Nat.le_refl _, fun _ _ => rfl⟩
theorem eq_take {a b : List Dw} (_ : a.length = b.length) {j : Nat} {x y : Dw} (hx : a[j]? = some x) (hy : b[j]? = some y) (h : a.take j = b.take j) (hxy : x = y) : a.take (j + 1) = b.take (j + 1) := by
  rw [List.take_add_one, List.take_add_one, h, hx, hy, hxy]
attribute [local irreducible] World.cell?
set_option maxRecDepth 100000 in
set_option maxHeartbeats 1600000 in
theorem sequalSt (B C : Nat) (v u : Value) (a b : List Dw) (w : World) (hv : DSl w B v a) (hu : DSl w C u b) (hm : a.length ≤ 1048576) (_ : b.length ≤ 1048576) :
    Calls Tryz.prog 8 #[v, u] w fun e w' => e = .returned (.bool (decide (a = b))) ∧ Below w.heap.size w w' := by
  obtain ⟨p, cap, rfl, hcap, hr⟩ := hv
  obtain ⟨p', cap', rfl, hcap', hr'⟩ := hu
  have Hr := Lib.hid hr
  have Hr' := Lib.hid hr'
  clear hr hr'
  by_cases hl : a.length = b.length
  · have hd : ((a.length : Int) == b.length) = true := by simp; omega
    have hd2 : ((a.length : Int) != b.length) = false := by simp; omega
    obtain ⟨T, hT⟩ : ∃ T, T = decide (a = b) := ⟨_, rfl⟩
    rw [← hT]
    have HT := Lib.hid hT
    clear hT
    go_enter Tryz.func8, Tryz.ntmps8
    go_wp2_with fail
    go_loopw [5] (fun i wr => ∃ j : Nat, j ≤ a.length ∧ i = .int .i64 j ∧ Hid (a.take j = b.take j) ∧ Hid (Below w.heap.size w wr)) (fun i _ => a.length - (intOf i).toNat)
    case atStart => exact ⟨0, Nat.zero_le _, rfl, Lib.hid rfl, Below.refl _ _⟩
    case round =>
      obtain ⟨j, hj, rfl, Heq, Hb⟩ := hrel
      by_cases hlt : j < a.length
      · obtain ⟨g, rfl, _, hrow⟩ := Hr.out (by omega)
        obtain ⟨g', rfl, _, hrow'⟩ := Hr'.out (by omega)
        obtain ⟨x, hx⟩ : ∃ x, a[j]? = some x := ⟨a[j], List.getElem?_eq_getElem hlt⟩
        obtain ⟨y, hy⟩ : ∃ y, b[j]? = some y := ⟨b[j], List.getElem?_eq_getElem (by omega)⟩
        have r1 := hrow.below Hb.out hrow.lt
        have r2 := hrow'.below Hb.out hrow'.lt
        obtain ⟨c0, c1, c2, c3, c4⟩ := r1.cells hx
        obtain ⟨d0, d1, d2, d3, d4⟩ := r2.cells hy
        have hne := neD x y
        have Hx := Lib.hid hx
        have Hy := Lib.hid hy
        clear hx hy r1 r2 hrow hrow'
        go_upto_region 6 with fail
        by_cases hxy : x = y
        · rw [eqDB_iff.2 hxy] at hne
          have Hxy := Lib.hid hxy
          clear hxy
          go_quiet (fail)
          go_wp2_with fail
          go_roundw
          case rel => exact ⟨j + 1, by omega, by go_num, Lib.hid (eq_take hl Hx.out Hy.out Heq.out Hxy.out), below_dn Hb.out _⟩
          case measure => simp [intOf]; omega
        · rw [eqDB_no hxy] at hne
          have hF : a ≠ b := fun h => hxy (by have h1 := Hx.out; rw [h, Hy.out] at h1; injection h1 with h1; exact h1.symm)
          obtain rfl : T = false := HT.out.trans (decide_eq_false hF)
          clear hF hxy
          go_quiet (fail)
          go_wp2_with fail
          go_ret
          exact ⟨rfl, below_dn Hb.out _⟩
      · obtain rfl : j = a.length := by omega
        have hE := Heq.out
        rw [List.take_length, List.take_of_length_le (by omega)] at hE
        obtain rfl : T = true := HT.out.trans (decide_eq_true hE)
        go_wp2_with fail
        go_ret
        exact ⟨rfl, Hb.out⟩
  · have hd : ((a.length : Int) == b.length) = false := by simp; omega
    have hd2 : ((a.length : Int) != b.length) = true := by simp; omega
    rw [decide_eq_false (fun h => hl (by rw [h]))]
    go_enter Tryz.func8, Tryz.ntmps8
    go_wp2_with fail
    go_ret
    exact ⟨rfl, Below.refl _ _⟩
end Go.Proofs.YtkcpemkahkkcmaaGreat
namespace Go.Proofs.YtkcpemkahkkcmaaGreat
open Go.RowKit
def amB (s x f : Dw) : Bool := dMulB x f && dAddB s (dMulV x f)
def amV (s x f : Dw) : Dw := if amB s x f then dAddV s (dMulV x f) else .zero
attribute [local irreducible] World.cell?
set_option maxRecDepth 100000 in
set_option maxHeartbeats 3200000 in
theorem iaddM (s x f : Dw) (w : World) (hs : EB s) (hx : EB x) (hf : EB f) :
    Calls Tryz.prog 23 #[(.agg #[.int .i64 s.n.a, .int .i64 s.n.b, .int .i64 s.n.c, .int .i64 s.n.d, .int .i64 s.e]), (.agg #[.int .i64 x.n.a, .int .i64 x.n.b, .int .i64 x.n.c, .int .i64 x.n.d, .int .i64 x.e]), (.agg #[.int .i64 f.n.a, .int .i64 f.n.b, .int .i64 f.n.c, .int .i64 f.n.d, .int .i64 f.e])] w fun e w' => e = .returned (.tuple #[(.agg #[.int .i64 (amV s x f).n.a, .int .i64 (amV s x f).n.b, .int .i64 (amV s x f).n.c, .int .i64 (amV s x f).n.d, .int .i64 (amV s x f).e]), .bool (amB s x f)]) ∧ Below w.heap.size w w' := by
  have Hm := Lib.hid (fun w => imulD_any x f w hx.1 hx.2 hf.1 hf.2)
  have hp := eb_mul x f
  have Ha := Lib.hid (fun w => iaddD_any s (dMulV x f) w hs.1 hs.2 hp.1 hp.2)
  have HB := Lib.hid (show amB s x f = (dMulB x f && dAddB s (dMulV x f)) from rfl)
  have HV := Lib.hid (show dMulB x f = true → amV s x f = dAddV s (dMulV x f) from fun h => by
    unfold amV amB
    rw [h, Bool.true_and]
    split
    · rfl
    · rename_i h2
      unfold dAddV
      rw [if_neg h2])
  have HN := Lib.hid (show dMulB x f = false → amV s x f = .zero from fun h => by unfold amV amB; rw [h]; rfl)
  clear hs hx hf hp
  generalize amV s x f = R at *
  generalize amB s x f = T at *
  generalize dAddB s (dMulV x f) = u at *
  generalize dAddV s (dMulV x f) = r at *
  generalize dMulV x f = P at *
  generalize dMulB x f = t at *
  have Hr0_0 := Lib.hid (alloc_blk (.cells #[.int .i64 0, .int .i64 0, .int .i64 0, .int .i64 0, .int .i64 0] 54) (alloc_blk (.cells #[.int .i64 f.n.a, .int .i64 f.n.b, .int .i64 f.n.c, .int .i64 f.n.d, .int .i64 f.e] 54) (alloc_blk (.cells #[.int .i64 x.n.a, .int .i64 x.n.b, .int .i64 x.n.c, .int .i64 x.n.d, .int .i64 x.e] 54) (heap_alloc_new w (.cells #[.int .i64 s.n.a, .int .i64 s.n.b, .int .i64 s.n.c, .int .i64 s.n.d, .int .i64 s.e] 54)))))
  have Hr0_1 := Lib.hid (alloc_blk (.cells #[.int .i64 0, .int .i64 0, .int .i64 0, .int .i64 0, .int .i64 0] 54) (alloc_blk (.cells #[.int .i64 f.n.a, .int .i64 f.n.b, .int .i64 f.n.c, .int .i64 f.n.d, .int .i64 f.e] 54) (show ((w.alloc (.cells #[.int .i64 s.n.a, .int .i64 s.n.b, .int .i64 s.n.c, .int .i64 s.n.d, .int .i64 s.e] 54)).alloc (.cells #[.int .i64 x.n.a, .int .i64 x.n.b, .int .i64 x.n.c, .int .i64 x.n.d, .int .i64 x.e] 54)).heap[w.heap.size + 1]? = some (.cells #[.int .i64 x.n.a, .int .i64 x.n.b, .int .i64 x.n.c, .int .i64 x.n.d, .int .i64 x.e] 54 (0, 0)) from by simpa using heap_alloc_new (w.alloc (.cells #[.int .i64 s.n.a, .int .i64 s.n.b, .int .i64 s.n.c, .int .i64 s.n.d, .int .i64 s.e] 54)) (.cells #[.int .i64 x.n.a, .int .i64 x.n.b, .int .i64 x.n.c, .int .i64 x.n.d, .int .i64 x.e] 54))))
  have Hr0_2 := Lib.hid (alloc_blk (.cells #[.int .i64 0, .int .i64 0, .int .i64 0, .int .i64 0, .int .i64 0] 54) (show (((w.alloc (.cells #[.int .i64 s.n.a, .int .i64 s.n.b, .int .i64 s.n.c, .int .i64 s.n.d, .int .i64 s.e] 54)).alloc (.cells #[.int .i64 x.n.a, .int .i64 x.n.b, .int .i64 x.n.c, .int .i64 x.n.d, .int .i64 x.e] 54)).alloc (.cells #[.int .i64 f.n.a, .int .i64 f.n.b, .int .i64 f.n.c, .int .i64 f.n.d, .int .i64 f.e] 54)).heap[w.heap.size + 2]? = some (.cells #[.int .i64 f.n.a, .int .i64 f.n.b, .int .i64 f.n.c, .int .i64 f.n.d, .int .i64 f.e] 54 (0, 0)) from by simpa using heap_alloc_new ((w.alloc (.cells #[.int .i64 s.n.a, .int .i64 s.n.b, .int .i64 s.n.c, .int .i64 s.n.d, .int .i64 s.e] 54)).alloc (.cells #[.int .i64 x.n.a, .int .i64 x.n.b, .int .i64 x.n.c, .int .i64 x.n.d, .int .i64 x.e] 54)) (.cells #[.int .i64 f.n.a, .int .i64 f.n.b, .int .i64 f.n.c, .int .i64 f.n.d, .int .i64 f.e] 54)))
  have Hr0_3 := Lib.hid (show ((((w.alloc (.cells #[.int .i64 s.n.a, .int .i64 s.n.b, .int .i64 s.n.c, .int .i64 s.n.d, .int .i64 s.e] 54)).alloc (.cells #[.int .i64 x.n.a, .int .i64 x.n.b, .int .i64 x.n.c, .int .i64 x.n.d, .int .i64 x.e] 54)).alloc (.cells #[.int .i64 f.n.a, .int .i64 f.n.b, .int .i64 f.n.c, .int .i64 f.n.d, .int .i64 f.e] 54)).alloc (.cells #[.int .i64 0, .int .i64 0, .int .i64 0, .int .i64 0, .int .i64 0] 54)).heap[w.heap.size + 3]? = some (.cells #[.int .i64 0, .int .i64 0, .int .i64 0, .int .i64 0, .int .i64 0] 54 (0, 0)) from by simpa using heap_alloc_new (((w.alloc (.cells #[.int .i64 s.n.a, .int .i64 s.n.b, .int .i64 s.n.c, .int .i64 s.n.d, .int .i64 s.e] 54)).alloc (.cells #[.int .i64 x.n.a, .int .i64 x.n.b, .int .i64 x.n.c, .int .i64 x.n.d, .int .i64 x.e] 54)).alloc (.cells #[.int .i64 f.n.a, .int .i64 f.n.b, .int .i64 f.n.c, .int .i64 f.n.d, .int .i64 f.e] 54)) (.cells #[.int .i64 0, .int .i64 0, .int .i64 0, .int .i64 0, .int .i64 0] 54))
  cases t
  · obtain rfl : T = false := HB.out
    obtain rfl := HN.out rfl
    go_enter Tryz.func23, Tryz.ntmps23
    go_wp2_with fail
    refine (Hm.out _).mono ?_
    rintro e w1 ⟨rfl, hb1⟩
    have hr0 := below_blk hb1 (lt_of_block Hr0_0.out) Hr0_0.out
    have zg0 := lt_of_block hr0
    obtain ⟨c0_0, c0_1, c0_2, c0_3, c0_4⟩ := blk_cells5 hr0
    have Hr1_0 := Lib.hid (alloc_blk (.cells #[.int .i64 P.n.a, .int .i64 P.n.b, .int .i64 P.n.c, .int .i64 P.n.d, .int .i64 P.e] 54) hr0)
    have hr1 := below_blk hb1 (lt_of_block Hr0_1.out) Hr0_1.out
    have zg1 := lt_of_block hr1
    obtain ⟨c1_0, c1_1, c1_2, c1_3, c1_4⟩ := blk_cells5 hr1
    have Hr1_1 := Lib.hid (alloc_blk (.cells #[.int .i64 P.n.a, .int .i64 P.n.b, .int .i64 P.n.c, .int .i64 P.n.d, .int .i64 P.e] 54) hr1)
    have hr2 := below_blk hb1 (lt_of_block Hr0_2.out) Hr0_2.out
    have zg2 := lt_of_block hr2
    obtain ⟨c2_0, c2_1, c2_2, c2_3, c2_4⟩ := blk_cells5 hr2
    have Hr1_2 := Lib.hid (alloc_blk (.cells #[.int .i64 P.n.a, .int .i64 P.n.b, .int .i64 P.n.c, .int .i64 P.n.d, .int .i64 P.e] 54) hr2)
    have hr3 := below_blk hb1 (lt_of_block Hr0_3.out) Hr0_3.out
    have zg3 := lt_of_block hr3
    obtain ⟨c3_0, c3_1, c3_2, c3_3, c3_4⟩ := blk_cells5 hr3
    have f3 := fun o => free_at hr3 o
    have Hq1_3 := Lib.hid hr3
    have Hr1_3 := Lib.hid (alloc_blk (.cells #[.int .i64 P.n.a, .int .i64 P.n.b, .int .i64 P.n.c, .int .i64 P.n.d, .int .i64 P.e] 54) hr3)
    have hb1 := below_up (B := w.heap.size) (w := w) (by go_grown) hb1 (by simp <;> omega)
    have Hp1 := Lib.hid hb1
    have Hb1 := Lib.hid (Below.alloc hb1 (Below.size hb1) (.cells #[.int .i64 P.n.a, .int .i64 P.n.b, .int .i64 P.n.c, .int .i64 P.n.d, .int .i64 P.e] 54))
    have Hr1_4 := Lib.hid (heap_alloc_new w1 (.cells #[.int .i64 P.n.a, .int .i64 P.n.b, .int .i64 P.n.c, .int .i64 P.n.d, .int .i64 P.e] 54))
    clear hr0 hr1 hr2 hr3
    clear hb1
    go_wp2_with fail
    obtain ⟨k0, k1, k2, k3, k4⟩ := blk_cells5 (alloc_blk (.cells #[.int .i64 P.n.a, .int .i64 P.n.b, .int .i64 P.n.c, .int .i64 P.n.d, .int .i64 P.e] 54) (set5_at (u0 := .int .i64 0) (u1 := .int .i64 0) (u2 := .int .i64 0) (u3 := .int .i64 0) (u4 := .int .i64 0) Hq1_3.out))
    refine bodyPost_ret (v := .tuple #[(.agg #[.int .i64 Dw.zero.n.a, .int .i64 Dw.zero.n.b, .int .i64 Dw.zero.n.c, .int .i64 Dw.zero.n.d, .int .i64 Dw.zero.e]), .bool false]) (by simp only [results, Tryz.results23]; simp [go_sem, k0, k1, k2, k3, k4, Dw.zero, Zw.zero]) rfl ⟨rfl, ?_⟩
    have := Hp1.out
    go_grown
  · obtain rfl : T = u := HB.out
    obtain rfl := HV.out rfl
    go_enter Tryz.func23, Tryz.ntmps23
    go_wp2_with fail
    refine (Hm.out _).mono ?_
    rintro e w1 ⟨rfl, hb1⟩
    have hr0 := below_blk hb1 (lt_of_block Hr0_0.out) Hr0_0.out
    have zg0 := lt_of_block hr0
    obtain ⟨c0_0, c0_1, c0_2, c0_3, c0_4⟩ := blk_cells5 hr0
    have Hr1_0 := Lib.hid (alloc_blk (.cells #[.int .i64 P.n.a, .int .i64 P.n.b, .int .i64 P.n.c, .int .i64 P.n.d, .int .i64 P.e] 54) hr0)
    have hr1 := below_blk hb1 (lt_of_block Hr0_1.out) Hr0_1.out
    have zg1 := lt_of_block hr1
    obtain ⟨c1_0, c1_1, c1_2, c1_3, c1_4⟩ := blk_cells5 hr1
    have Hr1_1 := Lib.hid (alloc_blk (.cells #[.int .i64 P.n.a, .int .i64 P.n.b, .int .i64 P.n.c, .int .i64 P.n.d, .int .i64 P.e] 54) hr1)
    have hr2 := below_blk hb1 (lt_of_block Hr0_2.out) Hr0_2.out
    have zg2 := lt_of_block hr2
    obtain ⟨c2_0, c2_1, c2_2, c2_3, c2_4⟩ := blk_cells5 hr2
    have Hr1_2 := Lib.hid (alloc_blk (.cells #[.int .i64 P.n.a, .int .i64 P.n.b, .int .i64 P.n.c, .int .i64 P.n.d, .int .i64 P.e] 54) hr2)
    have hr3 := below_blk hb1 (lt_of_block Hr0_3.out) Hr0_3.out
    have zg3 := lt_of_block hr3
    obtain ⟨c3_0, c3_1, c3_2, c3_3, c3_4⟩ := blk_cells5 hr3
    have f3 := fun o => free_at hr3 o
    have Hq1_3 := Lib.hid hr3
    have Hr1_3 := Lib.hid (alloc_blk (.cells #[.int .i64 P.n.a, .int .i64 P.n.b, .int .i64 P.n.c, .int .i64 P.n.d, .int .i64 P.e] 54) hr3)
    have hb1 := below_up (B := w.heap.size) (w := w) (by go_grown) hb1 (by simp <;> omega)
    have Hp1 := Lib.hid hb1
    have Hb1 := Lib.hid (Below.alloc hb1 (Below.size hb1) (.cells #[.int .i64 P.n.a, .int .i64 P.n.b, .int .i64 P.n.c, .int .i64 P.n.d, .int .i64 P.e] 54))
    have Hr1_4 := Lib.hid (heap_alloc_new w1 (.cells #[.int .i64 P.n.a, .int .i64 P.n.b, .int .i64 P.n.c, .int .i64 P.n.d, .int .i64 P.e] 54))
    clear hr0 hr1 hr2 hr3
    clear hb1
    go_wp2_with fail
    refine (Ha.out _).mono ?_
    rintro e w2 ⟨rfl, hb2⟩
    clear zg0 c0_0 c0_1 c0_2 c0_3 c0_4 zg1 c1_0 c1_1 c1_2 c1_3 c1_4 zg2 c2_0 c2_1 c2_2 c2_3 c2_4 zg3 c3_0 c3_1 c3_2 c3_3 c3_4 f3
    have hr0 := below_blk hb2 (lt_of_block Hr1_0.out) Hr1_0.out
    have zg0 := lt_of_block hr0
    obtain ⟨c0_0, c0_1, c0_2, c0_3, c0_4⟩ := blk_cells5 hr0
    have Hr2_0 := Lib.hid hr0
    have hr1 := below_blk hb2 (lt_of_block Hr1_1.out) Hr1_1.out
    have zg1 := lt_of_block hr1
    obtain ⟨c1_0, c1_1, c1_2, c1_3, c1_4⟩ := blk_cells5 hr1
    have Hr2_1 := Lib.hid hr1
    have hr2 := below_blk hb2 (lt_of_block Hr1_2.out) Hr1_2.out
    have zg2 := lt_of_block hr2
    obtain ⟨c2_0, c2_1, c2_2, c2_3, c2_4⟩ := blk_cells5 hr2
    have Hr2_2 := Lib.hid hr2
    have hr3 := below_blk hb2 (lt_of_block Hr1_3.out) Hr1_3.out
    have zg3 := lt_of_block hr3
    obtain ⟨c3_0, c3_1, c3_2, c3_3, c3_4⟩ := blk_cells5 hr3
    have f3 := fun o => free_at hr3 o
    have Hq2_3 := Lib.hid hr3
    have Hr2_3 := Lib.hid hr3
    have hr4 := below_blk hb2 (lt_of_block Hr1_4.out) Hr1_4.out
    have zg4 := lt_of_block hr4
    obtain ⟨c4_0, c4_1, c4_2, c4_3, c4_4⟩ := blk_cells5 hr4
    have Hr2_4 := Lib.hid hr4
    have hb2 := below_nx Hb1.out hb2
    have Hp2 := Lib.hid hb2
    have Hb2 := Lib.hid hb2
    clear hr0 hr1 hr2 hr3 hr4
    clear hb2
    go_wp2_with fail
    obtain ⟨k0, k1, k2, k3, k4⟩ := blk_cells5 (set5_at (u0 := .int .i64 R.n.a) (u1 := .int .i64 R.n.b) (u2 := .int .i64 R.n.c) (u3 := .int .i64 R.n.d) (u4 := .int .i64 R.e) Hq2_3.out)
    refine bodyPost_ret (v := .tuple #[(.agg #[.int .i64 R.n.a, .int .i64 R.n.b, .int .i64 R.n.c, .int .i64 R.n.d, .int .i64 R.e]), .bool T]) (by simp only [results, Tryz.results23]; simp [go_sem, k0, k1, k2, k3, k4]) rfl ⟨rfl, ?_⟩
    have := Hp2.out
    go_grown
end Go.Proofs.YtkcpemkahkkcmaaGreat
