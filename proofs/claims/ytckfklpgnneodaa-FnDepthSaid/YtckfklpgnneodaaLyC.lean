/- The model's counts of gates: CountGates, TCount, TwoQubitCount. -/
import Derived.Test.YtckfklpgnneodaaLyP
import Derived.Test.YtckfklpgnneodaaBaseB15
namespace Go.Proofs.Ytckfklpgnneodaa
open Go.RowKit
def cntK (k : Int) (L : List Gt) : Nat := L.countP fun g => decide (g.k = k)
def cnt2 (L : List Gt) : Nat := L.countP fun g => decide (1 < ar g.k)
def cntT (L : List Gt) : Nat := cntK 7 L + cntK 8 L
theorem countP_step {p : Gt → Bool} {L : List Gt} {j : Nat} {x : Gt} (hx : L[j]? = some x) : (L.take (j + 1)).countP p = (L.take j).countP p + if p x then 1 else 0 := by
  rw [List.take_add_one, hx, List.countP_append]
  simp [List.countP_cons]
theorem countP_le {p : Gt → Bool} {L : List Gt} (j : Nat) : (L.take j).countP p ≤ j := Nat.le_trans List.countP_le_length (by rw [List.length_take]; omega)
theorem cntK_le (k : Int) (L : List Gt) : cntK k L ≤ L.length := List.countP_le_length
attribute [local irreducible] World.cell?
set_option maxRecDepth 100000 in
set_option maxHeartbeats 1600000 in
theorem scntK (B : Nat) (n k : Int) (v : Value) (L : List Gt) (w : World) (hv : gtE.Sl w B v L) (hm : L.length ≤ 1048576) :
    Calls Try.prog 18 #[.agg #[.int .i64 n, v], .int .i64 k] w fun e w' => e = .returned (.int .i64 (cntK k L)) ∧ Below w.heap.size w w' := by
  obtain ⟨a, cap, rfl, hcap, hr⟩ := hv
  have Hr := Lib.hid hr
  clear hr
  have HC0 := Lib.hid (heap_alloc_new w (.cells #[.int .i64 n, .slice a L.length cap] 26))
  have Hb0 := Lib.hid (show Below w.heap.size w (w.alloc (.cells #[.int .i64 n, .slice a L.length cap] 26)) by go_grown)
  go_enter Try.func18, Try.ntmps18
  go_wp2_with fail
  go_loopg [5, 6] L.length (fun m cv i wr => ∃ j : Nat, m = L.length - j ∧ j ≤ L.length ∧ cv = .int .i64 (cntK k (L.take j)) ∧ i = .int .i64 j ∧ Hid (wr.heap[w.heap.size]? = some (.cells #[.int .i64 n, .slice a L.length cap] 26 (0, 0))) ∧ Hid (Below w.heap.size w wr))
  case atStart => exact ⟨0, rfl, Nat.zero_le _, rfl, rfl, HC0, Hb0⟩
  case round =>
    obtain ⟨j, rfl, hj, rfl, rfl, HC, Hb⟩ := hrel
    obtain ⟨p0, p1⟩ := blk_cells2 HC.out
    have hCl := lt_of_block HC.out
    by_cases hlt : j < L.length
    · obtain ⟨g, rfl, _, hrow⟩ := Hr.out (by omega)
      obtain ⟨x, hx⟩ : ∃ x, L[j]? = some x := ⟨L[j], List.getElem?_eq_getElem hlt⟩
      have r1 := hrow.below Hb.out hrow.lt
      obtain ⟨c0, c1, c2, c3⟩ := GRow.cells r1 hx
      have hgl := r1.lt
      have Hst := Lib.hid (countP_step (p := fun g => decide (g.k = k)) hx)
      have hle := countP_le (p := fun g => decide (g.k = k)) (L := L) j
      unfold cntK
      clear hrow r1 hx
      by_cases hk : x.k = k
      · have Hst2 := Lib.hid (Hst.out.trans (by rw [if_pos (by simpa using hk)]))
        clear Hst
        generalize (L.take j).countP (fun g => decide (g.k = k)) = c at *
        go_wp2_with fail
        go_roundg (L.length - (j + 1))
        case measure => omega
        case rel => exact ⟨j + 1, rfl, by omega, by first | (unfold cntK; rw [Hst2.out]; go_num) | (unfold cnt2; rw [Hst2.out]; go_num), by go_num, HC, Hb⟩
      · have Hst2 := Lib.hid (Hst.out.trans (by rw [if_neg (by simpa using hk)]))
        clear Hst
        generalize (L.take j).countP (fun g => decide (g.k = k)) = c at *
        go_wp2_with fail
        go_roundg (L.length - (j + 1))
        case measure => omega
        case rel => exact ⟨j + 1, rfl, by omega, by first | (unfold cntK; rw [Hst2.out]; rfl) | (unfold cnt2; rw [Hst2.out]; rfl), by go_num, HC, Hb⟩
    · obtain rfl : j = L.length := by omega
      go_wp2_with fail
      go_ret
      exact ⟨by first | rfl | (rw [List.take_length]; rfl), Hb.out⟩
set_option maxRecDepth 100000 in
set_option maxHeartbeats 1600000 in
theorem scnt2 (B : Nat) (n : Int) (v : Value) (L : List Gt) (w : World) (hv : gtE.Sl w B v L) (hm : L.length ≤ 1048576) :
    Calls Try.prog 23 #[.agg #[.int .i64 n, v]] w fun e w' => e = .returned (.int .i64 (cnt2 L)) ∧ Below w.heap.size w w' := by
  obtain ⟨a, cap, rfl, hcap, hr⟩ := hv
  have Hr := Lib.hid hr
  clear hr
  have HC0 := Lib.hid (heap_alloc_new w (.cells #[.int .i64 n, .slice a L.length cap] 26))
  have Hb0 := Lib.hid (show Below w.heap.size w (w.alloc (.cells #[.int .i64 n, .slice a L.length cap] 26)) by go_grown)
  go_enter Try.func23, Try.ntmps23
  go_wp2_with fail
  go_loopg [3, 4] L.length (fun m cv i wr => ∃ j : Nat, m = L.length - j ∧ j ≤ L.length ∧ cv = .int .i64 (cnt2 (L.take j)) ∧ i = .int .i64 j ∧ Hid (wr.heap[w.heap.size]? = some (.cells #[.int .i64 n, .slice a L.length cap] 26 (0, 0))) ∧ Hid (Below w.heap.size w wr))
  case atStart => exact ⟨0, rfl, Nat.zero_le _, rfl, rfl, HC0, Hb0⟩
  case round =>
    obtain ⟨j, rfl, hj, rfl, rfl, HC, Hb⟩ := hrel
    obtain ⟨p0, p1⟩ := blk_cells2 HC.out
    have hCl := lt_of_block HC.out
    by_cases hlt : j < L.length
    · obtain ⟨g, rfl, _, hrow⟩ := Hr.out (by omega)
      obtain ⟨x, hx⟩ : ∃ x, L[j]? = some x := ⟨L[j], List.getElem?_eq_getElem hlt⟩
      have r1 := hrow.below Hb.out hrow.lt
      obtain ⟨c0, c1, c2, c3⟩ := GRow.cells r1 hx
      have hgl := r1.lt
      have Ha := Lib.hid (fun W => sar x.k W)
      have Hst := Lib.hid (countP_step (p := fun g => decide (1 < ar g.k)) hx)
      have hle := countP_le (p := fun g => decide (1 < ar g.k)) (L := L) j
      have har := ar_le x.k
      unfold cnt2
      clear hrow r1 hx
      by_cases hk : 1 < ar x.k
      · have Hst2 := Lib.hid (Hst.out.trans (by rw [if_pos (by simpa using hk)]))
        clear Hst
        generalize (L.take j).countP (fun g => decide (1 < ar g.k)) = c at *
        generalize ar x.k = t at *
        have hk' : (1 : Int) < (t : Int) := by omega
        go_wp2_with fail
        refine (Ha.out _).mono ?_
        rintro e wx ⟨rfl, rfl⟩
        go_wp2_with fail
        go_roundg (L.length - (j + 1))
        case measure => omega
        case rel => exact ⟨j + 1, rfl, by omega, by first | (unfold cntK; rw [Hst2.out]; go_num) | (unfold cnt2; rw [Hst2.out]; go_num), by go_num, HC, Hb⟩
      · have Hst2 := Lib.hid (Hst.out.trans (by rw [if_neg (by simpa using hk)]))
        clear Hst
        generalize (L.take j).countP (fun g => decide (1 < ar g.k)) = c at *
        generalize ar x.k = t at *
        have hk' : ¬ (1 : Int) < (t : Int) := by omega
        go_wp2_with fail
        refine (Ha.out _).mono ?_
        rintro e wx ⟨rfl, rfl⟩
        go_wp2_with fail
        go_roundg (L.length - (j + 1))
        case measure => omega
        case rel => exact ⟨j + 1, rfl, by omega, by first | (unfold cntK; rw [Hst2.out]; rfl) | (unfold cnt2; rw [Hst2.out]; rfl), by go_num, HC, Hb⟩
    · obtain rfl : j = L.length := by omega
      go_wp2_with fail
      go_ret
      exact ⟨by first | rfl | (rw [List.take_length]; rfl), Hb.out⟩
set_option maxRecDepth 100000 in
set_option maxHeartbeats 1600000 in
theorem scntT (B : Nat) (n : Int) (v : Value) (L : List Gt) (w : World) (hv : gtE.Sl w B v L) (hm : L.length ≤ 1048576) :
    Calls Try.prog 22 #[.agg #[.int .i64 n, v]] w fun e w' => e = .returned (.int .i64 (cntT L)) ∧ Below w.heap.size w w' := by
  have Hb0 := Lib.hid (show Below w.heap.size w (w.alloc (.cells #[.int .i64 n, v] 26)) by go_grown)
  have HX := Lib.hid (heap_alloc_new w (.cells #[.int .i64 n, v] 26))
  have Hv := Lib.hid (show gtE.Sl (w.alloc (.cells #[.int .i64 n, v] 26)).drew B v L from (hv.below ((Below.refl _ _).alloc (Nat.le_refl _) (.cells #[.int .i64 n, v] 26))).block fun _ _ _ => rfl)
  have H7 := Lib.hid (fun W (h : gtE.Sl W B v L) => scntK B n 7 v L W h hm)
  have H8 := Lib.hid (fun W (h : gtE.Sl W B v L) => scntK B n 8 v L W h hm)
  have h7 := cntK_le 7 L
  have h8 := cntK_le 8 L
  have hw : IntKind.i64.wrap ((cntK 7 L : Int) + (cntK 8 L : Int)) = (cntT L : Int) := by
    unfold cntT
    rw [IntKind.wrap_i64]
    omega
  generalize cntT L = T at *
  generalize cntK 7 L = c7 at *
  generalize cntK 8 L = c8 at *
  obtain ⟨c0, c1⟩ := blk_cells2 HX.out
  have hS : CB w w.heap.size n v (w.alloc (.cells #[.int .i64 n, v] 26)) := ⟨c0, c1, lt_of_block HX.out, Hb0.out⟩
  obtain ⟨pa, ca, rfl, -, -⟩ := hv
  go_enter Try.func22, Try.ntmps22
  go_upto_region 1 with fail
  go_region_held3 (fun w' => w'.cell? ⟨w.heap.size, 0, none⟩ = some (.int .i64 n) ∧ w'.cell? ⟨w.heap.size, 1, none⟩ = some (.slice pa L.length ca) ∧ w.heap.size < w'.heap.size ∧ Below w.heap.size w w') (first | (show CB _ _ _ _ _; (with_reducible exact hS.drew)) | (show CB _ _ _ _ _; exact hS.drew.below hbR) | (show CB _ _ _ _ _; (with_reducible refine CB.below ?_ hbR); first | assumption | exact ⟨by assumption, by assumption, by assumption, by assumption⟩))
    ((go_at_call 18; first
      | ((with_reducible refine (H7.out _ Hv.out).mono ?_); rintro e wR ⟨rfl, hbR⟩; have HvR := Lib.hid (Hv.out.below hbR); have HbR := Lib.hid hbR)
      | ((with_reducible refine (H8.out _ HvR.out).mono ?_); rintro e wQ ⟨rfl, hbR⟩; have HbQ := Lib.hid hbR)))
  have Hb1 := Lib.hid (below_nx Hb0.out.drew HbR.out)
  have Hb2 := Lib.hid (below_nx Hb1.out HbQ.out)
  go_wp2_with fail
  go_ret
  exact ⟨rfl, Hb2.out⟩
end Go.Proofs.Ytckfklpgnneodaa
