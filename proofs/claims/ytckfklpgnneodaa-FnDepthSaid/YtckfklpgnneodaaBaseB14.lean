/- BaseB14: several of our texts in one: GtK CiKy. -/
import Derived.Test.YtckfklpgnneodaaGtKd
import Derived.Test.YtckfklpgnneodaaGtC
namespace Go.Proofs.Ytckfklpgnneodaa
end Go.Proofs.Ytckfklpgnneodaa
namespace Go.Proofs.Ytckfklpgnneodaa
open Go.RowKit
attribute [local irreducible] World.cell?
set_option maxRecDepth 100000 in
set_option maxHeartbeats 3200000 in
theorem ivalidC (B : Nat) (n : Int) (v : Value) (l : List Gt) (w : World) (hv : gtE.Sl w B v l) (hm : l.length ≤ 1048576) (n0 : -9223372036854775808 ≤ n) (n1 : n ≤ 9223372036854775807) :
    Calls Try.prog 50 #[.agg #[.int .i64 n, v]] w fun e w' => e = .returned (.bool (ciB n l)) ∧ Below w.heap.size w w' := by
  obtain ⟨a, cap, rfl, hcap, hr⟩ := hv
  have Hr := Lib.hid hr
  clear hr
  have HC0 := Lib.hid (heap_alloc_new w (.cells #[.int .i64 n, .slice a l.length cap] 26))
  have Hb0 := Lib.hid (show Below w.heap.size w (w.alloc (.cells #[.int .i64 n, .slice a l.length cap] 26)) by go_grown)
  obtain ⟨p0, p1⟩ := blk_cells2 HC0.out
  have hCl := lt_of_block HC0.out
  obtain ⟨T, hT⟩ : ∃ T, T = ciB n l := ⟨_, rfl⟩
  rw [← hT]
  have HT := Lib.hid (hT.trans (show ciB n l = (l.all (fun g => gtB g n) && (decide (1 ≤ n ∧ n ≤ 4) && decide (l.length ≤ 60))) from rfl))
  clear hT
  by_cases hn : 1 ≤ n ∧ n ≤ 4
  · have Hq := Lib.hid (fun w => iisq_yes n w hn)
    have HG := Lib.hid (fun x W => ivalidG x n W n0 n1)
    have HT1 := Lib.hid (HT.out.trans (by rw [decide_eq_true hn, Bool.true_and]))
    clear hn HT
    by_cases h60 : l.length ≤ 60
    · have HT2 := Lib.hid (HT1.out.trans (by rw [decide_eq_true h60, Bool.and_true]))
      clear HT1
      go_enter Try.func50, Try.ntmps50
      go_wp2_with (first | (go_at_call 68; refine (Hq.out _).mono ?_; rintro e wR ⟨rfl, rfl⟩))
      go_loopg [18] l.length (fun m i wr => ∃ j : Nat, m = l.length - j ∧ j ≤ l.length ∧ i = .int .i64 j ∧ Hid ((l.take j).all (fun g => gtB g n) = true) ∧ Hid (wr.heap[w.heap.size]? = some (.cells #[.int .i64 n, .slice a l.length cap] 26 (0, 0))) ∧ Hid (Below w.heap.size w wr))
      case atStart => exact ⟨0, rfl, Nat.zero_le _, rfl, rfl, HC0, Hb0⟩
      case round =>
        obtain ⟨j, rfl, hj, rfl, Hyes, HC, Hb⟩ := hrel
        clear p0 p1 hCl
        obtain ⟨p0, p1⟩ := blk_cells2 HC.out
        have hCl := lt_of_block HC.out
        have hsw := Hb.out.size
        by_cases hlt : j < l.length
        · obtain ⟨g, rfl, _, hrow⟩ := Hr.out (by omega)
          obtain ⟨x, hx⟩ : ∃ x, l[j]? = some x := ⟨l[j], List.getElem?_eq_getElem hlt⟩
          have r1 := hrow.below Hb.out hrow.lt
          obtain ⟨c0, c1, c2, c3⟩ := GRow.cells r1 hx
          have hgl := r1.lt
          have HX := Lib.hid (heap_alloc_new wr (.cells #[.int .i64 x.k, .int .i64 x.a, .int .i64 x.b, .int .i64 x.c] 59))
          have HC2 := Lib.hid (alloc_blk (.cells #[.int .i64 x.k, .int .i64 x.a, .int .i64 x.b, .int .i64 x.c] 59) HC.out)
          obtain ⟨q0, q1⟩ := blk_cells2 HC2.out
          have Hb' := Lib.hid (show Below w.heap.size w (wr.alloc (.cells #[.int .i64 x.k, .int .i64 x.a, .int .i64 x.b, .int .i64 x.c] 59)) from Hb.out.alloc hsw _)
          have Hat := Lib.hid (all_take (p := fun g => gtB g n) hx Hyes.out)
          have Hno := Lib.hid (fun h => all_no (p := fun g => gtB g n) hx h)
          have Hc := Lib.hid (fun W => HG.out x W)
          clear hrow r1 hx
          generalize gtB x n = t at *
          go_wp2_with fail
          refine (Hc.out _).mono ?_
          rintro e w4 ⟨rfl, hb4⟩
          have HC4 := Lib.hid (below_blk hb4 (lt_of_block HC2.out) HC2.out)
          have Hb4 := Lib.hid (below_nx Hb'.out hb4)
          have hs4 := Hb4.out.size
          clear hb4 c0 c1 c2 c3 hgl
          cases t with
          | true =>
            clear Hno
            go_wp2_with fail
            go_roundg (l.length - (j + 1))
            case measure => omega
            case rel => exact ⟨j + 1, rfl, by omega, by go_num, Hat, HC4, Hb4⟩
          | false =>
            obtain rfl : T = false := HT2.out.trans (Hno.out rfl)
            clear Hno
            go_wp2_with fail
            go_ret
            exact ⟨rfl, Hb4.out⟩
        · obtain rfl : j = l.length := by omega
          have hall := Hyes.out
          rw [List.take_length] at hall
          obtain rfl : T = true := HT2.out.trans hall
          clear hall
          go_wp2_with fail
          go_ret
          exact ⟨rfl, Hb.out⟩
    · obtain rfl : T = false := HT1.out.trans (by rw [decide_eq_false h60, Bool.and_false])
      have h61 : ¬ l.length ≤ 60 := h60
      clear HT1 h60 HG
      go_enter Try.func50, Try.ntmps50
      go_wp2_with (first | (go_at_call 68; refine (Hq.out _).mono ?_; rintro e wR ⟨rfl, rfl⟩))
      go_ret
      exact ⟨rfl, Hb0.out⟩
  · have Hq := Lib.hid (fun w => iisq_no n w hn n0 n1)
    obtain rfl : T = false := HT.out.trans (by rw [decide_eq_false hn, Bool.false_and, Bool.and_false])
    clear hn HT
    go_enter Try.func50, Try.ntmps50
    go_wp2_with (first | (go_at_call 68; refine (Hq.out _).mono ?_; rintro e wR ⟨rfl, rfl⟩))
    go_ret
    exact ⟨rfl, Hb0.out⟩
end Go.Proofs.Ytckfklpgnneodaa
