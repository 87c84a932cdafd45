/- The laws' own marks, looks and sizes of slices of tokens; sameTokens. -/
import Derived.Test.YtgicldokglpimaaTkL
import Derived.Test.YtgicldokglpimaaTcK
namespace Go.Proofs.Ytgicldokglpimaa
open Go.RowKit
theorem mt_eq (k : Nat) : (⟨(mt k).toArray⟩ : ByteArray) = sb (mt k) := rfl
theorem Mid.next2 {B C : Nat} {w w1 w2 : World} (h : Mid B C w w1) (hb : Below w1.heap.size w1 w2) (hB : B ≤ w1.heap.size) : Mid B C w w2 :=
  ⟨h.1.trans (hb.mono hB), fun b hc hl => (hb.block b (Nat.lt_of_lt_of_le hl h.1.size)).trans (h.2 b hc hl)⟩
attribute [local irreducible] World.cell?
set_option maxRecDepth 100000 in
set_option maxHeartbeats 3200000 in
theorem markTks (B C k : Nat) (v : Value) (l : List Tk) (w : World) (hv : tkE.Sc w B C v l) (hm : l.length ≤ 1048576) (hk1 : 1 ≤ k) (hk : k ≤ 1073741824) :
    Calls Try.prog 21 #[v, .int .i64 k] w fun e w' => e = .returned (.int .i64 ((k + l.length * 2 : Nat) : Int)) ∧ tkE.Sc w' B C v (marksT k l.length) ∧ Mid B C w w' := by
  obtain ⟨a, cap, rfl, hcap, hr⟩ := hv
  have Hr := Lib.hid hr
  clear hr
  go_enter Try.func21, Try.ntmps21
  go_wp2_with fail
  go_loopw [1, 5] (fun m i wr => ∃ j : Nat, j ≤ l.length ∧ m = .int .i64 ((k + j * 2 : Nat) : Int) ∧ i = .int .i64 j ∧ Hid (∀ g, a = some ⟨g, 0, none⟩ → B ≤ g → g < C → tkE.Row w g l → tkE.Row wr g (marksT k j ++ l.drop j)) ∧ Hid (Mid B C w wr)) (fun _ i _ => l.length - (intOf i).toNat)
  case atStart => exact ⟨0, Nat.zero_le _, by simp, rfl, fun g _ _ _ h => by simpa [marksT] using h, Mid.refl _ _ _⟩
  case round =>
    obtain ⟨j, hj, rfl, rfl, Hrow, Hm⟩ := hrel
    by_cases hlt : j < l.length
    · obtain ⟨g, rfl, hB, hC, hrow0⟩ := Hr.out (by omega)
      have hrow := Hrow.out g rfl hB hC hrow0
      obtain ⟨x, hx⟩ : ∃ x, l[j]? = some x := ⟨l[j], List.getElem?_eq_getElem hlt⟩
      obtain ⟨c0, c1⟩ := TRow.cells hrow ((markT_at l hlt).trans hx)
      have f1 := fun o => hrow.free o
      have hgl := hrow.lt
      have hr1 := hrow.put1 (j := j) (o := 0) (v := .int .i64 ((k + j * 2 : Nat) : Int)) (y := ⟨((k + j * 2 : Nat) : Int), x.s⟩) ((markT_at l hlt).trans hx) (by decide) rfl
      have Hr1 := Lib.hid (show tkE.Row (wr.setCell ⟨g, j * 2, none⟩ (.int .i64 ((k : Int) + j * 2))) g ((marksT k j ++ l.drop j).set j ⟨((k + j * 2 : Nat) : Int), x.s⟩) by
        have e : ((k + j * 2 : Nat) : Int) = (k : Int) + j * 2 := by simp
        rw [← e]; exact hr1)
      have Hm1 := Lib.hid (Hm.out.set hB hC (o := j * 2) (.int .i64 ((k : Int) + j * 2)))
      have Hmt := Lib.hid (fun W => markText_any (k + j * 2 + 1) W (by omega) (by omega))
      rw [show ((k + j * 2 + 1 : Nat) : Int) = (k : Int) + j * 2 + 1 by simp] at Hmt
      have hjl : j < (marksT k j ++ l.drop j).length := by simp [marksT_len]; omega
      have Hjl := Lib.hid hjl
      have hset := markT_set l (k := k) hlt
      have Hset := Lib.hid hset
      clear hrow Hrow Hm hrow0 hx hr1 hjl hset
      go_wp2_with fail
      refine (Hmt.out _).mono ?_
      rintro e w2 ⟨rfl, hb2⟩
      have hr2 := Hr1.out.below hb2 Hr1.out.lt
      obtain ⟨d0, d1⟩ := TRow.cells hr2 (List.getElem?_set_self Hjl.out)
      have f2 := fun o => hr2.free o
      have hgl2 := hr2.lt
      have hr3 := hr2.put1 (j := j) (o := 1) (v := .string (sb (mt (k + j * 2 + 1)))) (x := ⟨((k + j * 2 : Nat) : Int), x.s⟩) (y := mkTk (k + j * 2)) (List.getElem?_set_self Hjl.out) (by decide) rfl
      rw [List.set_set, Hset.out] at hr3
      have Hr3 := Lib.hid hr3
      have Hm3 := Lib.hid ((Hm1.out.next2 hb2 (by have := Hr1.out.lt; omega)).set hB hC (o := j * 2 + 1) (.string (sb (mt (k + j * 2 + 1)))))
      clear hr2 hr3 hb2 c0 c1 f1 hgl
      go_wp2_with fail
      go_roundw
      case rel => exact ⟨j + 1, by omega, by go_num, by go_num, fun g' hg _ _ _ => by cases hg; exact Hr3.out, Hm3⟩
      case measure => simp [intOf]; omega
    · obtain rfl : j = l.length := by omega
      go_wp2_with fail
      go_ret
      refine ⟨rfl, ⟨_, _, by rw [marksT_len], by rw [marksT_len]; exact hcap, fun hl => ?_⟩, Hm.out⟩
      rw [marksT_len] at hl
      obtain ⟨g, e, hB, hC, hrow0⟩ := Hr.out hl
      exact ⟨g, e, hB, hC, by simpa using Hrow.out g e hB hC hrow0⟩
set_option maxRecDepth 100000 in
set_option maxHeartbeats 1600000 in
theorem heldTks (B k n : Nat) (v : Value) (w : World) (hv : tkE.Sl w B v (marksT k n)) (hm : n ≤ 1048576) (hk1 : 1 ≤ k) (hk : k ≤ 1073741824) :
    Calls Try.prog 22 #[v, .int .i64 k] w fun e w' => e = .returned (.int .i64 ((k + n * 2 : Nat) : Int)) ∧ Below w.heap.size w w' := by
  obtain ⟨a, cap, rfl, hcap, hr⟩ := hv
  have Hr := Lib.hid hr
  have hln := marksT_len k n
  rw [hln] at Hr ⊢
  clear hr hln hcap
  go_enter Try.func22, Try.ntmps22
  go_wp2_with fail
  go_loopw [1, 5] (fun m i wr => ∃ j : Nat, j ≤ n ∧ m = .int .i64 ((k + j * 2 : Nat) : Int) ∧ i = .int .i64 j ∧ Hid (Below w.heap.size w wr)) (fun _ i _ => n - (intOf i).toNat)
  case atStart => exact ⟨0, Nat.zero_le _, by simp, rfl, Below.refl _ _⟩
  case round =>
    obtain ⟨j, hj, rfl, rfl, Hb⟩ := hrel
    by_cases hlt : j < n
    · obtain ⟨g, rfl, _, hrow⟩ := Hr.out (by omega)
      have r1 := hrow.below Hb.out hrow.lt
      obtain ⟨c0, c1⟩ := TRow.cells r1 (marksT_at hlt)
      have hgl := r1.lt
      have c0' : wr.cell? ⟨g, j * 2, none⟩ = some (.int .i64 ((k : Int) + j * 2)) := by rw [c0]; simp [mkTk]
      have c1' : wr.cell? ⟨g, j * 2 + 1, none⟩ = some (.string ⟨(mt (k + j * 2 + 1)).toArray⟩) := by rw [c1]; rfl
      have hS : CellIn w ⟨g, j * 2 + 1, none⟩ ⟨(mt (k + j * 2 + 1)).toArray⟩ wr := ⟨c1', hgl, Hb.out⟩
      have Hmt := Lib.hid (fun W => markText_any (k + j * 2 + 1) W (by omega) (by omega))
      rw [show ((k + j * 2 + 1 : Nat) : Int) = (k : Int) + j * 2 + 1 by simp] at Hmt
      generalize (⟨(mt (k + j * 2 + 1)).toArray⟩ : ByteArray) = E at *
      have hne := bytes_yes E
      clear c0 c1 c1' hrow r1
      go_wp2_with fail
      go_upto_region 7 with fail
      go_region_held3 (fun w' => w'.cell? ⟨g, j * 2 + 1, none⟩ = some (.string E) ∧ g < w'.heap.size ∧ Below w.heap.size w w') (first | exact hS.drew | (show CellIn w ⟨g, j * 2 + 1, none⟩ E _; refine CellIn.below ?_ hbR; first | assumption | exact ⟨by assumption, by assumption, by assumption⟩))
        (first | (go_at_call 42; (with_reducible refine (Hmt.out _).mono ?_); rintro e wR ⟨rfl, hbR⟩))
      have Hb2 := Lib.hid (below_up Hb.out.drew hbR Hb.out.size)
      go_wp2_with fail
      go_roundw
      case rel => exact ⟨j + 1, by omega, by go_num, by go_num, Hb2⟩
      case measure => simp [intOf]; omega
    · obtain rfl : j = n := by omega
      go_wp2_with fail
      go_ret
      exact ⟨rfl, Hb.out⟩
theorem markT1 (B C : Nat) (v : Value) (l : List Tk) (w : World) (hv : tkE.Sc w B C v l) (hm : l.length ≤ 1048576) :
    Calls Try.prog 21 #[v, .int .i64 1] w fun e w' => e = .returned (.int .i64 (1 + (l.length : Int) * 2)) ∧ tkE.Sc w' B C v (marksT 1 l.length) ∧ Mid B C w w' := by
  refine (markTks B C 1 v l w hv hm (by omega) (by omega)).mono ?_
  rintro e w1 ⟨rfl, h⟩
  exact ⟨by simp, h⟩
theorem heldT1 (B n : Nat) (v : Value) (w : World) (hv : tkE.Sl w B v (marksT 1 n)) (hm : n ≤ 1048576) :
    Calls Try.prog 22 #[v, .int .i64 1] w fun e w' => e = .returned (.int .i64 (1 + (n : Int) * 2)) ∧ Below w.heap.size w w' := by
  refine (heldTks B 1 n v w hv hm (by omega) (by omega)).mono ?_
  rintro e w1 ⟨rfl, h⟩
  exact ⟨by simp, h⟩
end Go.Proofs.Ytgicldokglpimaa
