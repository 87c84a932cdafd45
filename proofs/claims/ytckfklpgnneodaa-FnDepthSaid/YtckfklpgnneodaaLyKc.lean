/- The program's counts of gates: countWhere, over whatever function it is given; CountGates, TCount, TwoQubitCount. -/
import Derived.Test.YtckfklpgnneodaaLyC
import Derived.Test.YtckfklpgnneodaaBaseB14
namespace Go.Proofs.Ytckfklpgnneodaa
open Go.RowKit
attribute [local irreducible] World.cell?
set_option maxRecDepth 100000 in
set_option maxHeartbeats 3200000 in
theorem icw (F : Nat) (C : Array Value) (eF : ∀ args w, (callFunc F args).run Try.prog w = .ok (.enter F args) w) (p : Gt → Bool) (B : Nat) (v : Value) (L : List Gt) (w : World) (hv : gtE.Sl w B v L) (hm : L.length ≤ 1048576)
    (hF : ∀ g W, Below w.heap.size w W → Calls Try.prog F (#[(.agg #[.int .i64 g.k, .int .i64 g.a, .int .i64 g.b, .int .i64 g.c])] ++ C) W fun e w' => e = .returned (.bool (p g)) ∧ Below W.heap.size W w') :
    Calls Try.prog 41 #[v, .func (.func F) #[] C] w fun e w' => e = .returned (.int .i64 (L.countP p)) ∧ Below w.heap.size w w' := by
  obtain ⟨a, cap, rfl, hcap, hr⟩ := hv
  have Hr := Lib.hid hr
  have HF := Lib.hid hF
  clear hr hF
  go_enter Try.func41, Try.ntmps41
  go_wp2_with fail
  go_loopg [5, 10] L.length (fun m cv i wr => ∃ j : Nat, m = L.length - j ∧ j ≤ L.length ∧ cv = .int .i64 ((L.take j).countP p) ∧ i = .int .i64 j ∧ Hid (Below w.heap.size w wr))
  case atStart => exact ⟨0, rfl, Nat.zero_le _, rfl, rfl, Below.refl _ _⟩
  case round =>
    obtain ⟨j, rfl, hj, rfl, rfl, Hb⟩ := hrel
    have hsw := Hb.out.size
    by_cases hlt : j < L.length
    · obtain ⟨g, rfl, _, hrow⟩ := Hr.out (by omega)
      obtain ⟨x, hx⟩ : ∃ x, L[j]? = some x := ⟨L[j], List.getElem?_eq_getElem hlt⟩
      have r1 := hrow.below Hb.out hrow.lt
      obtain ⟨c0, c1, c2, c3⟩ := GRow.cells r1 hx
      have hgl := r1.lt
      have Hb' := Lib.hid (show Below w.heap.size w (wr.alloc (.cells #[.int .i64 x.k, .int .i64 x.a, .int .i64 x.b, .int .i64 x.c] 59)) from Hb.out.alloc hsw _)
      have Hc := Lib.hid (HF.out x _ Hb'.out)
      have Hst := Lib.hid (countP_step (p := p) hx)
      have hle := countP_le (p := p) (L := L) j
      clear hrow r1 hx
      generalize p x = t at *
      generalize (L.take j).countP p = c at *
      go_wp2_with fail
      refine (Hc.out).mono ?_
      rintro e w4 ⟨rfl, hb4⟩
      have Hb4 := Lib.hid (below_nx Hb'.out hb4)
      clear hb4 c0 c1 c2 c3 hgl Hc
      cases t with
      | true =>
        have hd : (L.take (j + 1)).countP p = c + 1 := Hst.out
        go_wp2_with fail
        go_roundg (L.length - (j + 1))
        case measure => omega
        case rel => exact ⟨j + 1, rfl, by omega, by rw [hd]; go_num, by go_num, Hb4⟩
      | false =>
        have hd : (L.take (j + 1)).countP p = c := Hst.out
        go_wp2_with fail
        go_roundg (L.length - (j + 1))
        case measure => omega
        case rel => exact ⟨j + 1, rfl, by omega, by rw [hd], by go_num, Hb4⟩
    · obtain rfl : j = L.length := by omega
      go_wp2_with fail
      go_ret
      exact ⟨by first | rfl | (rw [List.take_length]; rfl), Hb.out⟩
set_option maxRecDepth 100000 in
set_option maxHeartbeats 1600000 in
theorem ikind1 (k : Int) (b : Nat) (g : Gt) (w : World) (hx : w.heap[b]? = some (.cells #[.int .i64 k] 3 (0, 0))) :
    Calls Try.prog 46 #[(.agg #[.int .i64 g.k, .int .i64 g.a, .int .i64 g.b, .int .i64 g.c]), .pointer (some ⟨b, 0, none⟩)] w fun e w' => e = .returned (.bool (decide (g.k = k))) ∧ Below w.heap.size w w' := by
  have Hb0 := Lib.hid (show Below w.heap.size w (w.alloc (.cells #[.int .i64 g.k, .int .i64 g.a, .int .i64 g.b, .int .i64 g.c] 59)) by go_grown)
  have HX := Lib.hid (alloc_blk (.cells #[.int .i64 g.k, .int .i64 g.a, .int .i64 g.b, .int .i64 g.c] 59) hx)
  have c0 := cell_at HX.out 0 _ rfl
  have hbl := lt_of_block hx
  obtain ⟨T, hT⟩ : ∃ T, T = decide (g.k = k) := ⟨_, rfl⟩
  have he : (g.k == k) = T := by rw [hT]; rfl
  rw [← hT]
  clear hT hx
  go_enter Try.func46, Try.ntmps46
  go_wp2_with fail
  go_ret
  exact ⟨rfl, Hb0.out⟩
set_option maxRecDepth 100000 in
set_option maxHeartbeats 1600000 in
theorem itwo1 (g : Gt) (w : World) :
    Calls Try.prog 42 #[(.agg #[.int .i64 g.k, .int .i64 g.a, .int .i64 g.b, .int .i64 g.c])] w fun e w' => e = .returned (.bool (decide (1 < ar g.k))) ∧ Below w.heap.size w w' := by
  have Hb0 := Lib.hid (show Below w.heap.size w (w.alloc (.cells #[.int .i64 g.k, .int .i64 g.a, .int .i64 g.b, .int .i64 g.c] 59)) by go_grown)
  have Ha := Lib.hid (fun W => iar0 g.k W)
  obtain ⟨T, hT⟩ : ∃ T, T = decide (1 < ar g.k) := ⟨_, rfl⟩
  have he : decide ((2 : Int) ≤ ((ar g.k : Nat) : Int)) = T := by
    rw [hT]
    by_cases h : 1 < ar g.k
    · rw [decide_eq_true h, decide_eq_true (by omega)]
    · rw [decide_eq_false h, decide_eq_false (by omega)]
  rw [← hT]
  clear hT
  generalize ar g.k = t at *
  go_enter Try.func42, Try.ntmps42
  go_wp2_with fail
  refine (Ha.out _).mono ?_
  rintro e w1 ⟨rfl, rfl⟩
  go_wp2_with fail
  go_ret
  exact ⟨rfl, Hb0.out⟩
set_option maxRecDepth 100000 in
set_option maxHeartbeats 1600000 in
theorem icntK (B : Nat) (n k : Int) (v : Value) (L : List Gt) (w : World) (hv : gtE.Sl w B v L) (hm : L.length ≤ 1048576) :
    Calls Try.prog 20 #[.agg #[.int .i64 n, v], .int .i64 k] w fun e w' => e = .returned (.int .i64 (cntK k L)) ∧ Below w.heap.size w w' := by
  have eF : ∀ args w, (callFunc 46 args).run Try.prog w = .ok (.enter 46 args) w := Try.call46
  have Hb0 := Lib.hid (show Below w.heap.size w ((w.alloc (.cells #[.int .i64 n, v] 26)).alloc (.cells #[.int .i64 k] 3)) by go_grown)
  have HX := Lib.hid (show ((w.alloc (.cells #[.int .i64 n, v] 26)).alloc (.cells #[.int .i64 k] 3)).heap[w.heap.size + 1]? = some (.cells #[.int .i64 k] 3 (0, 0)) by
    simpa using heap_alloc_new (w.alloc (.cells #[.int .i64 n, v] 26)) (.cells #[.int .i64 k] 3))
  have H := Lib.hid (icw 46 #[.pointer (some ⟨w.heap.size + 1, 0, none⟩)] eF (fun g => decide (g.k = k)) B v L _ (hv.below Hb0.out) hm
    (fun g W hW => ikind1 k (w.heap.size + 1) g W (below_blk hW (lt_of_block HX.out) HX.out)))
  have hC : L.countP (fun g => decide (g.k = k)) = cntK k L := rfl
  rw [hC] at H
  obtain ⟨a, cap, rfl, -, -⟩ := hv
  go_enter Try.func20, Try.ntmps20
  go_wp2_with fail
  refine (H.out).mono ?_
  rintro e w1 ⟨rfl, hb1⟩
  have Hb1 := Lib.hid (below_nx Hb0.out hb1)
  clear hb1
  go_wp2_with fail
  go_ret
  exact ⟨rfl, Hb1.out⟩
set_option maxRecDepth 100000 in
set_option maxHeartbeats 1600000 in
theorem icnt2 (B : Nat) (n : Int) (v : Value) (L : List Gt) (w : World) (hv : gtE.Sl w B v L) (hm : L.length ≤ 1048576) :
    Calls Try.prog 16 #[.agg #[.int .i64 n, v]] w fun e w' => e = .returned (.int .i64 (cnt2 L)) ∧ Below w.heap.size w w' := by
  have eF : ∀ args w, (callFunc 42 args).run Try.prog w = .ok (.enter 42 args) w := Try.call42
  have Hb0 := Lib.hid (show Below w.heap.size w (w.alloc (.cells #[.int .i64 n, v] 26)) by go_grown)
  have H := Lib.hid (icw 42 #[] eF (fun g => decide (1 < ar g.k)) B v L _ (hv.below Hb0.out) hm (fun g W _ => itwo1 g W))
  have hC : L.countP (fun g => decide (1 < ar g.k)) = cnt2 L := rfl
  rw [hC] at H
  obtain ⟨a, cap, rfl, -, -⟩ := hv
  go_enter Try.func16, Try.ntmps16
  go_wp2_with fail
  refine (H.out).mono ?_
  rintro e w1 ⟨rfl, hb1⟩
  have Hb1 := Lib.hid (below_nx Hb0.out hb1)
  clear hb1
  go_wp2_with fail
  go_ret
  exact ⟨rfl, Hb1.out⟩
set_option maxRecDepth 100000 in
set_option maxHeartbeats 1600000 in
theorem icntT (B : Nat) (n : Int) (v : Value) (L : List Gt) (w : World) (hv : gtE.Sl w B v L) (hm : L.length ≤ 1048576) :
    Calls Try.prog 15 #[.agg #[.int .i64 n, v]] w fun e w' => e = .returned (.int .i64 (cntT L)) ∧ Below w.heap.size w w' := by
  have Hb0 := Lib.hid (show Below w.heap.size w (w.alloc (.cells #[.int .i64 n, v] 26)) by go_grown)
  have HX := Lib.hid (heap_alloc_new w (.cells #[.int .i64 n, v] 26))
  have Hv := Lib.hid (show gtE.Sl (w.alloc (.cells #[.int .i64 n, v] 26)).drew B v L from (hv.below ((Below.refl _ _).alloc (Nat.le_refl _) (.cells #[.int .i64 n, v] 26))).block fun _ _ _ => rfl)
  have H7 := Lib.hid (fun W (h : gtE.Sl W B v L) => icntK B n 7 v L W h hm)
  have H8 := Lib.hid (fun W (h : gtE.Sl W B v L) => icntK B n 8 v L W h hm)
  have h7 := cntK_le 7 L
  have h8 := cntK_le 8 L
  have hw : IntKind.i64.wrap ((cntK 7 L : Int) + (cntK 8 L : Int)) = (cntT L : Int) := by
    unfold cntT
    rw [IntKind.wrap_i64]
    omega
  generalize cntT L = T at *
  generalize cntK 7 L = c7 at *
  generalize cntK 8 L = c8 at *
  obtain ⟨c0, c1⟩ := blk_cells2 HX.out
  have hS : CB w w.heap.size n v (w.alloc (.cells #[.int .i64 n, v] 26)) := ⟨c0, c1, lt_of_block HX.out, Hb0.out⟩
  obtain ⟨pa, ca, rfl, -, -⟩ := hv
  go_enter Try.func15, Try.ntmps15
  go_upto_region 1 with fail
  go_region_held3 (fun w' => w'.cell? ⟨w.heap.size, 0, none⟩ = some (.int .i64 n) ∧ w'.cell? ⟨w.heap.size, 1, none⟩ = some (.slice pa L.length ca) ∧ w.heap.size < w'.heap.size ∧ Below w.heap.size w w') (first | (show CB _ _ _ _ _; (with_reducible exact hS.drew)) | (show CB _ _ _ _ _; exact hS.drew.below hbR) | (show CB _ _ _ _ _; (with_reducible refine CB.below ?_ hbR); first | assumption | exact ⟨by assumption, by assumption, by assumption, by assumption⟩))
    ((go_at_call 20; first
      | ((with_reducible refine (H7.out _ Hv.out).mono ?_); rintro e wR ⟨rfl, hbR⟩; have HvR := Lib.hid (Hv.out.below hbR); have HbR := Lib.hid hbR)
      | ((with_reducible refine (H8.out _ HvR.out).mono ?_); rintro e wQ ⟨rfl, hbR⟩; have HbQ := Lib.hid hbR)))
  have Hb1 := Lib.hid (below_nx Hb0.out.drew HbR.out)
  have Hb2 := Lib.hid (below_nx Hb1.out HbQ.out)
  go_wp2_with fail
  go_ret
  exact ⟨rfl, Hb2.out⟩
end Go.Proofs.Ytckfklpgnneodaa
