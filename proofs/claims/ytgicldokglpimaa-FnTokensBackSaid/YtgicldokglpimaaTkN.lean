/- The laws' size of a slice of tokens that comes in; sameTokens. -/
import Derived.Test.YtgicldokglpimaaTkM
import Derived.Test.YtgicldokglpimaaBaseB12
namespace Go.Proofs.Ytgicldokglpimaa
open Go.RowKit
attribute [local irreducible] World.cell?
set_option maxRecDepth 100000 in
set_option maxHeartbeats 1600000 in
theorem szTks (a0 : Option Addr) (cap B : Nat) (l : List Tk) (left : Int) (w : World) (hin : TkIn w B a0 l) (hB : B ≤ w.heap.size) (l0 : 0 ≤ left) (l1 : left ≤ 1048576) :
    Calls Try.prog 26 #[.slice a0 l.length cap, .int .i64 left] w fun e w' => e = .returned (.int .i64 (if (l.length : Int) + tsz l ≤ left then left - l.length - tsz l else -1)) ∧ Below w.heap.size w w' := by
  have Hin := Lib.hid (hin.mono hB)
  have hml := hin.1
  have Hms := Lib.hid hin.2.1
  unfold maxLen at hml
  clear hin
  obtain ⟨r, hr⟩ : ∃ r : Int, r = if (l.length : Int) + tsz l ≤ left then left - l.length - tsz l else -1 := ⟨_, rfl⟩
  rw [← hr]
  have HR := Lib.hid hr
  clear hr
  by_cases h0 : (l.length : Int) ≤ left
  · have hn0 : ¬ (left - (l.length : Int) < 0) := by omega
    go_enter Try.func26, Try.ntmps26
    go_wp2_with fail
    go_loopw [1, 5] (fun m i wr => ∃ j : Nat, j ≤ l.length ∧ m = .int .i64 (left - l.length - tsz (l.take j)) ∧ i = .int .i64 j ∧ (l.length : Int) + tsz (l.take j) ≤ left ∧ Hid (Below w.heap.size w wr)) (fun _ i _ => l.length - (intOf i).toNat)
    case atStart => exact ⟨0, Nat.zero_le _, by simp [tsz], rfl, by simp [tsz]; omega, Below.refl _ _⟩
    case round =>
      obtain ⟨j, hj, rfl, rfl, hle, Hb⟩ := hrel
      by_cases hlt : j < l.length
      · obtain ⟨b, off, rfl, hbB, hcells⟩ := (Hin.out.below Hb.out).2.2 (by omega)
        obtain ⟨x, hx⟩ : ∃ x, l[j]? = some x := ⟨l[j], List.getElem?_eq_getElem hlt⟩
        obtain ⟨c0, c1⟩ := hcells j x hx
        have hst := tsz_step hx
        have htl := tsz_le l (j + 1)
        have hsz := sb_size x.s
        have hs2 := Hms.out x (List.mem_of_getElem? hx)
        have Hs := Lib.hid (fun W => szTk x.k (sb x.s) (left - l.length - tsz (l.take j)) W (by rw [hsz]; exact hs2) (by omega) (by omega))
        rw [hsz] at Hs
        clear hcells hx
        by_cases hf : (x.s.length : Int) ≤ left - l.length - tsz (l.take j)
        · rw [if_pos hf] at Hs
          have e : left - (l.length : Int) - tsz (l.take j) - (x.s.length : Int) = left - l.length - tsz (l.take (j + 1)) := by rw [hst]; omega
          rw [e] at Hs
          have hle2 : (l.length : Int) + tsz (l.take (j + 1)) ≤ left := by rw [hst]; omega
          have hng : ¬ (left - (l.length : Int) - tsz (l.take (j + 1)) < 0) := by omega
          clear e hst htl hsz hs2 hf
          obtain ⟨q, hq⟩ : ∃ q, q = tsz (l.take (j + 1)) := ⟨_, rfl⟩
          rw [← hq] at Hs hle2 hng
          have HQ := Lib.hid hq
          clear hq
          generalize tsz (l.take j) = p at *
          go_wp2_with fail
          refine (Hs.out _).mono ?_
          rintro e w2 ⟨rfl, hb2⟩
          have Hb2 := Lib.hid (below_nx Hb.out hb2)
          clear hb2
          go_wp2_with fail
          go_roundw
          case rel => exact ⟨j + 1, by omega, by rw [← HQ.out], by go_num, by rw [← HQ.out]; exact hle2, Hb2⟩
          case measure => simp [intOf]; omega
        · rw [if_neg hf] at Hs
          obtain rfl : r = -1 := HR.out.trans (if_neg (by omega))
          clear hst htl hsz hs2 hf
          generalize tsz (l.take j) = p at *
          go_wp2_with fail
          refine (Hs.out _).mono ?_
          rintro e w2 ⟨rfl, hb2⟩
          have Hb2 := Lib.hid (below_nx Hb.out hb2)
          clear hb2
          go_wp2_with fail
          go_ret
          exact ⟨rfl, Hb2.out⟩
      · obtain rfl : j = l.length := by omega
        rw [List.take_length] at hle
        obtain rfl := HR.out.trans (if_pos hle)
        go_wp2_with fail
        go_ret
        exact ⟨congrArg (fun q => Ending.returned (Value.int .i64 (left - l.length - (tsz q : Nat)))) (List.take_length (l := l)), Hb.out⟩
  · obtain rfl : r = -1 := HR.out.trans (if_neg (by omega))
    have hn0 : left - (l.length : Int) < 0 := by omega
    go_enter Try.func26, Try.ntmps26
    go_wp2_with fail
    go_ret
    exact ⟨rfl, Below.refl _ _⟩
set_option maxRecDepth 100000 in
set_option maxHeartbeats 1600000 in
theorem lsameT (B C : Nat) (v u : Value) (l : List Tk) (w : World) (hv : tkE.Sl w B v l) (hu : tkE.Sl w C u l) (hm : l.length ≤ 1048576) :
    Calls Try.prog 15 #[v, u] w fun e w' => e = .returned (.bool true) ∧ Below w.heap.size w w' := by
  obtain ⟨a, cap, rfl, hcap, hr⟩ := hv
  obtain ⟨a', cap', rfl, hcap', hr'⟩ := hu
  have Hr := Lib.hid hr
  have Hr' := Lib.hid hr'
  clear hr hr'
  have hd2 : ((l.length : Int) != l.length) = false := by simp
  go_enter Try.func15, Try.ntmps15
  go_wp2_with fail
  go_loopg [5] l.length (fun n i wr => ∃ j : Nat, n = l.length - j ∧ j ≤ l.length ∧ i = .int .i64 j ∧ Hid (Below w.heap.size w wr))
  case atStart => exact ⟨0, rfl, Nat.zero_le _, rfl, Below.refl _ _⟩
  case round =>
    obtain ⟨j, rfl, hj, rfl, Hb⟩ := hrel
    by_cases hlt : j < l.length
    · obtain ⟨g, rfl, _, hrow⟩ := Hr.out (by omega)
      obtain ⟨g', rfl, _, hrow'⟩ := Hr'.out (by omega)
      obtain ⟨x, hx⟩ : ∃ x, l[j]? = some x := ⟨l[j], List.getElem?_eq_getElem hlt⟩
      have r1 := hrow.below Hb.out hrow.lt
      have r2 := hrow'.below Hb.out hrow'.lt
      obtain ⟨c0, c1⟩ := TRow.cells r1 hx
      obtain ⟨d0, d1⟩ := TRow.cells r2 hx
      have hgl := r1.lt
      have hgl' := r2.lt
      have hjI : (0 : Int) ≤ (j : Int) := by omega
      have hjL : (j : Int) < (l.length : Int) := by omega
      generalize sb x.s = E at *
      have hby := bytes_yes E
      clear r1 r2 hrow hrow' hx
      go_upto_region 6 with fail
      go_quiet (fail)
      go_wp2_with fail
      go_roundg (l.length - (j + 1))
      case measure => omega
      case rel => exact ⟨j + 1, rfl, by omega, by go_num, Lib.hid (below_dn Hb.out _)⟩
    · obtain rfl : j = l.length := by omega
      go_wp2_with fail
      go_ret
      exact ⟨rfl, Hb.out⟩
end Go.Proofs.Ytgicldokglpimaa
