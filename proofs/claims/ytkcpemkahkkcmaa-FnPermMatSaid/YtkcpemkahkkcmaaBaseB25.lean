/- BaseB25: several of our texts in one: PmKs PmKi. -/
import Derived.Test.YtkcpemkahkkcmaaBaseB17
import Derived.Test.YtkcpemkahkkcmaaPmS
import Derived.Test.YtkcpemkahkkcmaaBaseB11
import Derived.Test.YtkcpemkahkkcmaaBaseB08
import Derived.Test.YtkcpemkahkkcmaaDsKa
namespace Go.Proofs.Ytkcpemkahkkcmaa
open Go.RowKit
theorem eq_takeI {a b : List Int} {j : Nat} {x y : Int} (hx : a[j]? = some x) (hy : b[j]? = some y) (h : a.take j = b.take j) (hxy : x = y) : a.take (j + 1) = b.take (j + 1) := by
  rw [List.take_add_one, List.take_add_one, h, hx, hy, hxy]
attribute [local irreducible] World.cell?
set_option maxRecDepth 100000 in
set_option maxHeartbeats 1600000 in
theorem islEqI (g g' cap cap' : Nat) (a b : List Int) (w : World) (ha : AR w g a) (hb : AR w g' b) (hl : a.length = b.length) (hm : a.length ≤ 1048576) :
    Calls Try.prog 125 #[.slice (some ⟨g, 0, none⟩) a.length cap, .slice (some ⟨g', 0, none⟩) a.length cap'] w fun e w' => e = .returned (.bool (decide (a = b))) ∧ Below w.heap.size w w' := by
  have Ha := Lib.hid ha
  have Hb := Lib.hid hb
  have hga := ha.lt
  have hgb := hb.lt
  have hd2 : ((a.length : Int) != a.length) = false := by simp
  obtain ⟨T, hT⟩ : ∃ T, T = decide (a = b) := ⟨_, rfl⟩
  rw [← hT]
  have HT := Lib.hid hT
  clear hT ha hb
  go_enter Try.func125, Try.ntmps125
  go_wp2_with fail
  go_loopw [13] (fun i wr => ∃ j : Nat, j ≤ a.length ∧ i = .int .i64 j ∧ Hid (a.take j = b.take j) ∧ Hid (Below w.heap.size w wr)) (fun i _ => a.length - (intOf i).toNat)
  case atStart => exact ⟨0, Nat.zero_le _, rfl, Lib.hid rfl, Below.refl _ _⟩
  case round =>
    obtain ⟨j, hj, rfl, Heq, Hbl⟩ := hrel
    by_cases hlt : j < a.length
    · obtain ⟨x, hx⟩ : ∃ x, a[j]? = some x := ⟨a[j], List.getElem?_eq_getElem hlt⟩
      obtain ⟨y, hy⟩ : ∃ y, b[j]? = some y := ⟨b[j]'(by omega), List.getElem?_eq_getElem (by omega)⟩
      have c0 := (Ha.out.block (Hbl.out.block _ hga)).cell hx
      have c1 := (Hb.out.block (Hbl.out.block _ hgb)).cell hy
      have Hx := Lib.hid hx
      have Hy := Lib.hid hy
      clear hx hy
      go_upto_region 6 with fail
      by_cases hxy : x = y
      · have hne : (x != y) = false := by rw [hxy]; simp
        have Hxy := Lib.hid hxy
        clear hxy
        go_quiet (fail)
        go_wp2_with fail
        go_roundw
        case rel => exact ⟨j + 1, by omega, by go_num, Lib.hid (eq_takeI Hx.out Hy.out Heq.out Hxy.out), below_dn Hbl.out _⟩
        case measure => simp [intOf]; omega
      · have hne : (x != y) = true := by simpa using hxy
        have hF : a ≠ b := fun h => hxy (by have h1 := Hx.out; rw [h, Hy.out] at h1; injection h1 with h1; exact h1.symm)
        obtain rfl : T = false := HT.out.trans (decide_eq_false hF)
        clear hF hxy
        go_quiet (fail)
        go_wp2_with fail
        go_ret
        exact ⟨rfl, below_dn Hbl.out _⟩
    · obtain rfl : j = a.length := by omega
      have hE := Heq.out
      rw [List.take_length, List.take_of_length_le (by omega)] at hE
      obtain rfl : T = true := HT.out.trans (decide_eq_true hE)
      go_wp2_with fail
      go_ret
      exact ⟨rfl, Hbl.out⟩
end Go.Proofs.Ytkcpemkahkkcmaa
namespace Go.Proofs.Ytkcpemkahkkcmaa
open Go.RowKit
attribute [local irreducible] World.cell?
set_option maxRecDepth 100000 in
set_option maxHeartbeats 1600000 in
theorem iidP_yes (m : Nat) (w : World) (h1 : 1 ≤ m) (h4 : m ≤ 4) :
    Calls Try.prog 126 #[.int .i64 m] w fun e w' => e = .returned (.slice (some ⟨w.heap.size, 0, none⟩) m m) ∧ intE.Row w' w.heap.size (upI m) ∧ Below w.heap.size w w' := by
  obtain ⟨i0, hi, hz0, hz1, hz2⟩ := info_parts infoInt
  have Hq := Lib.hid (fun w => iisq_yes m w (by omega))
  go_enter Try.func126, Try.ntmps126
  go_wp2_with fail
  refine (Hq.out _).mono ?_
  rintro e w0 ⟨rfl, rfl⟩
  go_wp2_with (first | (at_make; refine wpList_make_full _ rfl _ _ 39 rfl w.heap.size 3 i0 (.int .i64 0) 1 Try.underlying39 hi hz0 hz1 .i64 .i64 m m m rfl rfl rfl rfl (by rw [hz2]; omega) (by unfold maxLen; omega) (Nat.le_refl _) ?_))
  intro w1 hown hgrow
  have hb1 : Below w.heap.size w w1 := (Below.refl _ _).grown hgrow (Nat.le_refl _) (fun k hk => by cases hk)
  have hrow1 : intE.Row w1 w.heap.size (upZ m 0) := by
    rcases hown.2 with ⟨h, _⟩ | ⟨g, cap, cur, hv, hb, hg, _, _, hs, ht⟩
    · cases h
    · obtain ⟨rfl, rfl⟩ : g = w.heap.size ∧ cap = m := by injection hv with hv _ hv2; injection hv with hv; injection hv with hv; exact ⟨hv.symm, hv2.symm⟩
      refine ⟨cur, hg, ?_⟩
      rw [upZ_zero, List.length_replicate, ← made_ints]
      first | exact ht | simpa [intE] using ht
  have Hb1 := Lib.hid hb1
  have Hrow1 := Lib.hid hrow1
  clear hown hgrow hb1 hrow1
  go_wp2_with fail
  go_loopg [12] m (fun n i wr => ∃ j : Nat, n = m - j ∧ j ≤ m ∧ i = .int .i64 j ∧ Hid (intE.Row wr w.heap.size (upZ m j)) ∧ Hid (Below w.heap.size w wr))
  case atStart => exact ⟨0, rfl, Nat.zero_le _, rfl, Hrow1, Hb1⟩
  case round =>
    obtain ⟨j, rfl, hj, rfl, Hrow, Hb⟩ := hrel
    by_cases hlt : j < m
    · have hl := upZ_len hj
      obtain ⟨z, hz⟩ : ∃ z, (upZ m j)[j]? = some z := ⟨(upZ m j)[j]'(by omega), List.getElem?_eq_getElem _⟩
      have e0 := IRow.cell Hrow.out hz
      have f1 := fun o => Hrow.out.free o
      have hgl := Hrow.out.lt
      have hr3 := IRow.put Hrow.out (j := j) (by omega) (j : Int)
      rw [upZ_step hlt] at hr3
      have Hr3 := Lib.hid hr3
      clear hr3 hz Hrow
      go_wp2_with fail
      go_roundg (m - (j + 1))
      case measure => omega
      case rel =>
        refine ⟨j + 1, rfl, by omega, by go_num, by simpa using Hr3, ?_⟩
        have := Hb.out
        show Below _ _ _
        go_grown
    · obtain rfl : j = m := by omega
      have hrow := Hrow.out
      rw [upZ_all] at hrow
      have Hrow := Lib.hid hrow
      clear hrow
      go_wp2_with fail
      go_ret
      exact ⟨rfl, Hrow.out, Hb.out⟩
end Go.Proofs.Ytkcpemkahkkcmaa
