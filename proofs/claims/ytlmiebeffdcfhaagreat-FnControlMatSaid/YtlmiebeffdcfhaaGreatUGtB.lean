/- The model's search in a list of integers; validity of gates. -/
import Derived.Test.YtlmiebeffdcfhaaGreatUBaseB08
import Derived.Test.YtlmiebeffdcfhaaGreatUBaseB12
import Derived.Deep.QuietTactic
import Derived.BigQuiet
namespace Go.Proofs.YtlmiebeffdcfhaaGreat
open Go.RowKit
theorem mem_take {l : List Int} {j : Nat} {x y : Int} (hx : l[j]? = some x) (h : y ∉ l.take j) (hne : x ≠ y) : y ∉ l.take (j + 1) := by
  rw [List.take_add_one, hx]
  simp
  exact ⟨h, fun e => hne e.symm⟩
attribute [local irreducible] World.cell?
set_option maxRecDepth 100000 in
set_option maxHeartbeats 1600000 in
theorem shas (B : Nat) (v : Value) (l : List Int) (y : Int) (w : World) (hv : intE.Sl w B v l) (hm : l.length ≤ 1048576) :
    Calls Tryz.prog 70 #[v, .int .i64 y] w fun e w' => e = .returned (.bool (decide (y ∈ l))) ∧ w' = w := by
  obtain ⟨a, cap, rfl, hcap, hr⟩ := hv
  have Hr := Lib.hid hr
  clear hr
  obtain ⟨T, hT⟩ : ∃ T, T = decide (y ∈ l) := ⟨_, rfl⟩
  rw [← hT]
  have HT := Lib.hid hT
  clear hT
  go_enter Tryz.func70, Tryz.ntmps70
  go_wp2_with fail
  go_loopg [5] l.length (fun n i wr => ∃ j : Nat, n = l.length - j ∧ j ≤ l.length ∧ i = .int .i64 j ∧ Hid (y ∉ l.take j) ∧ w = wr)
  case atStart => exact ⟨0, rfl, Nat.zero_le _, rfl, Lib.hid (by simp), rfl⟩
  case round =>
    obtain ⟨j, rfl, hj, rfl, Hno, rfl⟩ := hrel
    by_cases hlt : j < l.length
    · obtain ⟨g, rfl, _, hrow⟩ := Hr.out (by omega)
      obtain ⟨x, hx⟩ : ∃ x, l[j]? = some x := ⟨l[j], List.getElem?_eq_getElem hlt⟩
      have c0 := IRow.cell hrow hx
      have Hx := Lib.hid hx
      have Hm := Lib.hid (show x ∈ l from List.mem_of_getElem? hx)
      clear hx hrow
      by_cases hxy : x = y
      · subst hxy
        obtain rfl : T = true := HT.out.trans (decide_eq_true Hm.out)
        go_wp2_with fail
        go_ret
        exact ⟨rfl, rfl⟩
      · have hd : (x == y) = false := by simpa using hxy
        have Hn := Lib.hid (mem_take Hx.out Hno.out hxy)
        clear hxy
        go_wp2_with fail
        go_roundg (l.length - (j + 1))
        case measure => omega
        case rel => exact ⟨j + 1, rfl, by omega, by go_num, Hn, rfl⟩
    · obtain rfl : j = l.length := by omega
      have hno := Hno.out
      rw [List.take_length] at hno
      obtain rfl : T = false := HT.out.trans (decide_eq_false hno)
      go_wp2_with fail
      go_ret
      exact ⟨rfl, rfl⟩
theorem lin_q (x lo hi : Int) (b : Bool) (w : World) (h : decide (lo ≤ x ∧ x ≤ hi) = b) :
    Calls Tryz.prog 31 #[.int .i64 x, .int .i64 lo, .int .i64 hi] w fun e w' => e = .returned (.bool b) ∧ w' = w :=
  (lin_any x lo hi b w h).mono fun _ _ ⟨a, b⟩ => ⟨a, b.symm⟩
theorem range3_at (j : Nat) (h : j < 3) : (List.range 3)[j]? = some j := by rw [List.getElem?_range h]
set_option maxRecDepth 100000 in
set_option maxHeartbeats 3200000 in
theorem svalidG (g : Gt) (n : Int) (w : World) :
    Calls Tryz.prog 30 #[(.agg #[.int .i64 g.k, .int .i64 g.a, .int .i64 g.b, .int .i64 g.c]), .int .i64 n] w fun e w' => e = .returned (.bool (gtB g n)) ∧ Below w.heap.size w w' := by
  have Hg0 := Lib.hid (heap_alloc_new w (.cells #[.int .i64 g.k, .int .i64 g.a, .int .i64 g.b, .int .i64 g.c] 25))
  have HG := Lib.hid (fun W => sgqs g W)
  have Hb0 := Lib.hid (show Below w.heap.size w (w.alloc (.cells #[.int .i64 g.k, .int .i64 g.a, .int .i64 g.b, .int .i64 g.c] 25)) by go_grown)
  have H14 := Lib.hid (fun W b h => lin_any n 1 4 b W h)
  obtain ⟨hi, hhi⟩ : ∃ hi, hi = IntKind.i64.wrap (n - 1) := ⟨_, rfl⟩
  have hlen := gqs_len g
  have h3 := ar_le g.k
  obtain ⟨T, hT⟩ : ∃ T, T = gtB g n := ⟨_, rfl⟩
  rw [← hT]
  have HT := Lib.hid (hT.trans (show gtB g n = ((List.range 3).all (gtOk g hi) && (decide (0 < ar g.k) && decide (1 ≤ n ∧ n ≤ 4))) by rw [hhi]; rfl))
  have Hok := Lib.hid (fun j => show gtOk g hi j = if ar g.k ≤ j then decide ([g.a, g.b, g.c].getD j 0 = 0) else decide (0 ≤ [g.a, g.b, g.c].getD j 0 ∧ [g.a, g.b, g.c].getD j 0 ≤ hi) && !decide ([g.a, g.b, g.c].getD j 0 ∈ (gqs g).take j) from rfl)
  generalize gtOk g hi = ok at *
  generalize gqs g = l at *
  generalize ar g.k = t at *
  subst hlen
  have hw := hhi.symm
  clear hT hhi
  go_enter Tryz.func30, Tryz.ntmps30
  go_wp2_with fail
  refine (HG.out _).mono ?_
  rintro e w1 ⟨v, rfl, hd, hb1⟩
  have hr1 := below_blk hb1 (lt_of_block Hg0.out) Hg0.out
  have Hb1 := Lib.hid (below_nx Hb0.out hb1)
  have hs1 := Hb1.out.size
  obtain ⟨c0, c1, c2, c3⟩ := blk_cells hr1
  have Hd := Lib.hid hd
  have Hall := Lib.hid (heap_alloc_new w1 (.cells #[.int .i64 g.a, .int .i64 g.b, .int .i64 g.c] 3))
  have Hd2 := Lib.hid (hd.below ((Below.refl _ _).alloc (Nat.le_refl _) (.cells #[.int .i64 g.a, .int .i64 g.b, .int .i64 g.c] 3)))
  have Hb2 := Lib.hid (Hb1.out.alloc hs1 (.cells #[.int .i64 g.a, .int .i64 g.b, .int .i64 g.c] 3))
  obtain ⟨a, cap, rfl, hcap, -⟩ := hd
  clear hr1 hb1 Hd
  go_wp2_with fail
  go_loopg [7] 3 (fun m i wr => ∃ j : Nat, m = 3 - j ∧ j ≤ 3 ∧ i = .int .i64 j ∧ Hid (((List.range 3).take j).all ok = true) ∧ Hid (wr.heap[w1.heap.size]? = some (.cells #[.int .i64 g.a, .int .i64 g.b, .int .i64 g.c] 3 (0, 0))) ∧ Hid (intE.Sl wr (w.heap.size + 1) (.slice a l.length cap) l) ∧ Hid (Below w.heap.size w wr))
  case atStart => exact ⟨0, rfl, Nat.zero_le _, rfl, rfl, Hall, by simpa using Hd2, Hb2⟩
  case round =>
    obtain ⟨j, rfl, hj, rfl, Hyes, HA, Hd, Hb⟩ := hrel
    by_cases hlt : j < 3
    · have hj3 : (j : Int) < 3 := by omega
      obtain ⟨x, hx⟩ : ∃ x, [g.a, g.b, g.c][j]? = some x := ⟨[g.a, g.b, g.c][j], List.getElem?_eq_getElem (by simpa using hlt)⟩
      have hxd : [g.a, g.b, g.c].getD j 0 = x := by rw [List.getD_eq_getElem?_getD, hx]; rfl
      have cx : wr.cell? ⟨w1.heap.size, j, none⟩ = some (.int .i64 x) := IRow.cell (l := [g.a, g.b, g.c]) ⟨_, HA.out, rfl⟩ hx
      have hokj := Hok.out j
      rw [hxd] at hokj
      have Hat := Lib.hid (all_take (p := ok) (range3_at j hlt) Hyes.out)
      have Hno := Lib.hid (fun h => all_no (p := ok) (range3_at j hlt) h)
      clear hx hxd
      by_cases hjt : l.length ≤ j
      · rw [if_pos hjt] at hokj
        have hd1 : decide (l.length ≤ j) = true := decide_eq_true hjt
        have hd2 : decide (j < l.length) = false := decide_eq_false (by omega)
        by_cases hx0 : x = 0
        · subst hx0
          have Hokj := Lib.hid (show ok j = true by rw [hokj]; simp)
          clear hokj
          go_upto_region 6 with fail
          go_quiet (fail)
          go_wp2_with fail
          go_roundg (3 - (j + 1))
          case measure => omega
          case rel => exact ⟨j + 1, rfl, by omega, by go_num, Lib.hid (Hat.out.trans Hokj.out), HA, Lib.hid (Enc.Sl.block Hd.out fun _ _ _ => rfl), Lib.hid (below_dn Hb.out _)⟩
        · have hx1 : (x != 0) = true := by simpa using hx0
          have Hokj := Lib.hid (show ok j = false by rw [hokj]; simpa using hx0)
          clear hokj
          go_upto_region 6 with fail
          go_quiet (fail)
          obtain rfl : T = false := HT.out.trans (by rw [Hno.out Hokj.out]; rfl)
          go_wp2_with fail
          go_ret
          exact ⟨rfl, below_dn Hb.out _⟩
      · rw [if_neg hjt] at hokj
        have hd1 : decide (l.length ≤ j) = false := decide_eq_false hjt
        have hd2 : decide (j < l.length) = true := decide_eq_true (by omega)
        obtain ⟨a', cap', e, hc', hr'⟩ := Hd.out
        injection e with e1 _ e3
        subst e1 e3
        obtain ⟨gl, rfl, hgl, hrow⟩ := hr' (by omega)
        have Hs := Lib.hid (fun q => shas gl (.slice (some ⟨gl, 0, none⟩) (l.take j).length cap) (l.take j) x (wr.drewN q) (Enc.Sl.mk rfl (by rw [List.length_take]; omega) (Nat.le_refl _) ((hrow.take j).block rfl)) (by rw [List.length_take]; omega))
        rw [List.length_take, Nat.min_eq_left (show j ≤ l.length by omega)] at Hs
        clear hr' hrow
        by_cases hin : 0 ≤ x ∧ x ≤ hi
        · have Hl := Lib.hid (fun W => lin_q x 0 hi true W (decide_eq_true hin))
          rw [decide_eq_true hin, Bool.true_and] at hokj
          clear hin
          by_cases hmem : x ∈ l.take j
          · rw [decide_eq_true hmem] at hokj Hs
            have Hokj := Lib.hid (show ok j = false from hokj)
            clear hokj hmem
            go_upto_region 6 with fail
            go_quiet (first | (go_at_call 31; exact Calls.quiet_of_same (Hl.out _)) | (go_at_call 70; exact Calls.quiet_of_same (Hs.out _)))
            obtain rfl : T = false := HT.out.trans (by rw [Hno.out Hokj.out]; rfl)
            go_wp2_with fail
            go_ret
            exact ⟨rfl, below_dn Hb.out _⟩
          · rw [decide_eq_false hmem] at hokj Hs
            have Hokj := Lib.hid (show ok j = true from hokj)
            clear hokj hmem
            go_upto_region 6 with fail
            go_quiet (first | (go_at_call 31; exact Calls.quiet_of_same (Hl.out _)) | (go_at_call 70; exact Calls.quiet_of_same (Hs.out _)))
            go_wp2_with fail
            go_roundg (3 - (j + 1))
            case measure => omega
            case rel => exact ⟨j + 1, rfl, by omega, by go_num, Lib.hid (Hat.out.trans Hokj.out), HA, Lib.hid (Enc.Sl.block Hd.out fun _ _ _ => rfl), Lib.hid (below_dn Hb.out _)⟩
        · have Hl := Lib.hid (fun W => lin_q x 0 hi false W (decide_eq_false hin))
          rw [decide_eq_false hin, Bool.false_and] at hokj
          have Hokj := Lib.hid hokj
          clear hokj hin
          go_upto_region 6 with fail
          go_quiet (first | (go_at_call 31; exact Calls.quiet_of_same (Hl.out _)) | (go_at_call 70; exact Calls.quiet_of_same (Hs.out _)))
          obtain rfl : T = false := HT.out.trans (by rw [Hno.out Hokj.out]; rfl)
          go_wp2_with fail
          go_ret
          exact ⟨rfl, below_dn Hb.out _⟩
    · obtain rfl : j = 3 := by omega
      have hall : (List.range 3).all ok = true := Hyes.out
      have hT := HT.out
      rw [hall, Bool.true_and] at hT
      by_cases h0 : 0 < l.length
      · rw [decide_eq_true h0, Bool.true_and] at hT
        have HT2 := Lib.hid hT
        clear hT hall
        obtain ⟨b, hb⟩ : ∃ b, b = decide (1 ≤ n ∧ n ≤ 4) := ⟨_, rfl⟩
        have H := Lib.hid (fun W => H14.out W b hb.symm)
        obtain rfl : T = b := HT2.out.trans hb.symm
        clear hb
        go_wp2_with fail
        refine (H.out _).mono ?_
        rintro e w5 ⟨rfl, rfl⟩
        go_wp2_with fail
        go_ret
        exact ⟨rfl, Hb.out⟩
      · rw [decide_eq_false h0, Bool.false_and] at hT
        subst hT
        clear hall
        go_wp2_with fail
        go_ret
        exact ⟨rfl, Hb.out⟩
end Go.Proofs.YtlmiebeffdcfhaaGreat
