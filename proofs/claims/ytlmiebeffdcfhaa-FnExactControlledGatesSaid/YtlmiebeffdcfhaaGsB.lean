/- The laws' slices of gates where they are long: up to 16777216 gates (compared, marked, looked at). -/
import Derived.Test.YtlmiebeffdcfhaaGsL
namespace Go.Proofs.Ytlmiebeffdcfhaa
open Go.RowKit
attribute [local irreducible] World.cell?
set_option maxRecDepth 100000 in
set_option maxHeartbeats 1600000 in
theorem eqGsB (B C : Nat) (v u : Value) (l : List Gt) (w : World) (hv : gtE.Sl w B v l) (hu : gtE.Sl w C u l) (hm : l.length ≤ 16777216) :
    Calls Try.prog 9 #[v, u] w fun e w' => e = .returned (.bool true) ∧ Below w.heap.size w w' := by
  obtain ⟨a, cap, rfl, hcap, hr⟩ := hv
  obtain ⟨a', cap', rfl, hcap', hr'⟩ := hu
  have Hr := Lib.hid hr
  have Hr' := Lib.hid hr'
  clear hr hr'
  have hd2 : ((l.length : Int) != l.length) = false := by simp
  go_enter Try.func9, Try.ntmps9
  go_wp2_with fail
  go_loopg [5] l.length (fun n i wr => ∃ j : Nat, n = l.length - j ∧ j ≤ l.length ∧ i = .int .i64 j ∧ Hid (Below w.heap.size w wr))
  case atStart => exact ⟨0, rfl, Nat.zero_le _, rfl, Below.refl _ _⟩
  case round =>
    obtain ⟨j, rfl, hj, rfl, Hb⟩ := hrel
    by_cases hlt : j < l.length
    · obtain ⟨g, rfl, _, hrow⟩ := Hr.out (by omega)
      obtain ⟨g', rfl, _, hrow'⟩ := Hr'.out (by omega)
      obtain ⟨x, hx⟩ : ∃ x, l[j]? = some x := ⟨l[j], List.getElem?_eq_getElem hlt⟩
      have r1 := hrow.below Hb.out hrow.lt
      have r2 := hrow'.below Hb.out hrow'.lt
      obtain ⟨c0, c1, c2, c3⟩ := GRow.cells r1 hx
      obtain ⟨d0, d1, d2, d3⟩ := GRow.cells r2 hx
      have He := Lib.hid (fun W => eqG x W)
      have hgl := r1.lt
      have hgl' := r2.lt
      have hS : E2G w g g' (j * 4) x x wr := ⟨c0, c1, c2, c3, d0, d1, d2, d3, r1.lt, r2.lt, Hb.out⟩
      clear r1 r2 hrow hrow' hx
      go_upto_region 6 with fail
      go_region_held3 (fun w' => w'.cell? ⟨g, j * 4, none⟩ = some (.int .i64 x.k) ∧ w'.cell? ⟨g, j * 4 + 1, none⟩ = some (.int .i64 x.a) ∧ w'.cell? ⟨g, j * 4 + 2, none⟩ = some (.int .i64 x.b) ∧ w'.cell? ⟨g, j * 4 + 3, none⟩ = some (.int .i64 x.c) ∧ w'.cell? ⟨g', j * 4, none⟩ = some (.int .i64 x.k) ∧ w'.cell? ⟨g', j * 4 + 1, none⟩ = some (.int .i64 x.a) ∧ w'.cell? ⟨g', j * 4 + 2, none⟩ = some (.int .i64 x.b) ∧ w'.cell? ⟨g', j * 4 + 3, none⟩ = some (.int .i64 x.c) ∧ g < w'.heap.size ∧ g' < w'.heap.size ∧ Below w.heap.size w w') (first | (show E2G w g g' (j * 4) x x _; (with_reducible exact hS.drew)) | (show E2G w g g' (j * 4) x x _; (with_reducible refine E2G.below ?_ hbR); first | assumption | exact ⟨by assumption, by assumption, by assumption, by assumption, by assumption, by assumption, by assumption, by assumption, by assumption, by assumption, by assumption⟩))
        (first | (go_at_call 32; (with_reducible refine (He.out _).mono ?_); rintro e wR ⟨rfl, hbR⟩))
      have Hb2 := Lib.hid (below_up Hb.out.drew hbR Hb.out.size)
      go_wp2_with fail
      go_roundg (l.length - (j + 1))
      case measure => omega
      case rel => exact ⟨j + 1, rfl, by omega, by go_num, Hb2⟩
    · obtain rfl : j = l.length := by omega
      go_wp2_with fail
      go_ret
      exact ⟨rfl, Hb.out⟩
set_option maxRecDepth 100000 in
set_option maxHeartbeats 3200000 in
theorem markGsB (B C k : Nat) (v : Value) (l : List Gt) (w : World) (hv : gtE.Sc w B C v l) (hm : l.length ≤ 16777216) (hk : k ≤ 1073741824) :
    Calls Try.prog 10 #[v, .int .i64 k] w fun e w' => e = .returned (.int .i64 ((k + l.length * 4 : Nat) : Int)) ∧ gtE.Sc w' B C v (marksG k l.length) ∧ Mid B C w w' := by
  obtain ⟨a, cap, rfl, hcap, hr⟩ := hv
  have Hr := Lib.hid hr
  clear hr
  go_enter Try.func10, Try.ntmps10
  go_wp2_with fail
  go_loopw [1, 5] (fun m i wr => ∃ j : Nat, j ≤ l.length ∧ m = .int .i64 ((k + j * 4 : Nat) : Int) ∧ i = .int .i64 j ∧ Hid (∀ g, a = some ⟨g, 0, none⟩ → B ≤ g → g < C → gtE.Row w g l → gtE.Row wr g (marksG k j ++ l.drop j)) ∧ Hid (Mid B C w wr)) (fun _ i _ => l.length - (intOf i).toNat)
  case atStart => exact ⟨0, Nat.zero_le _, by simp, rfl, fun g _ _ _ h => by simpa [marksG] using h, Mid.refl _ _ _⟩
  case round =>
    obtain ⟨j, hj, rfl, rfl, Hrow, Hm⟩ := hrel
    by_cases hlt : j < l.length
    · obtain ⟨g, rfl, hB, hC, hrow0⟩ := Hr.out (by omega)
      have hrow := Hrow.out g rfl hB hC hrow0
      obtain ⟨x, hx⟩ : ∃ x, l[j]? = some x := ⟨l[j], List.getElem?_eq_getElem hlt⟩
      obtain ⟨c0, c1, c2, c3⟩ := GRow.cells hrow ((markG_at l hlt).trans hx)
      have f1 := fun o => hrow.free o
      have hgl := hrow.lt
      have hr2 := GRow.put hrow (j := j) (by simp [marksG_len]; omega) (mk4 (k + j * 4))
      rw [markG_set l hlt] at hr2
      have Hr2 := Lib.hid hr2
      have Hm2 := Lib.hid ((((Hm.out.set hB hC (o := j * 4) (.int .i64 (mk4 (k + j * 4)).k)).set hB hC (o := j * 4 + 1) (.int .i64 (mk4 (k + j * 4)).a)).set hB hC (o := j * 4 + 2) (.int .i64 (mk4 (k + j * 4)).b)).set hB hC (o := j * 4 + 3) (.int .i64 (mk4 (k + j * 4)).c))
      clear hr2 hrow Hrow Hm hrow0 hx
      have m0 : (mk4 (k + j * 4)).k = (k : Int) + j * 4 := by simp [mk4]
      have m1 : (mk4 (k + j * 4)).a = (k : Int) + j * 4 + 1 := by simp [mk4]
      have m2 : (mk4 (k + j * 4)).b = (k : Int) + j * 4 + 1 + 1 := by simp [mk4]; omega
      have m3 : (mk4 (k + j * 4)).c = (k : Int) + j * 4 + 1 + 1 + 1 := by simp [mk4]; omega
      rw [m0, m1, m2, m3] at Hr2 Hm2
      clear m0 m1 m2 m3
      go_wp2_with fail
      go_roundw
      case rel => exact ⟨j + 1, by omega, by go_num, by go_num, fun g' hg _ _ _ => by cases hg; exact Hr2.out, Hm2⟩
      case measure => simp [intOf]; omega
    · obtain rfl : j = l.length := by omega
      go_wp2_with fail
      go_ret
      refine ⟨rfl, ⟨_, _, by rw [marksG_len], by rw [marksG_len]; exact hcap, fun hl => ?_⟩, Hm.out⟩
      rw [marksG_len] at hl
      obtain ⟨g, e, hB, hC, hrow0⟩ := Hr.out hl
      exact ⟨g, e, hB, hC, by simpa using Hrow.out g e hB hC hrow0⟩
theorem markG1B (B C : Nat) (v : Value) (l : List Gt) (w : World) (hv : gtE.Sc w B C v l) (hm : l.length ≤ 16777216) :
    Calls Try.prog 10 #[v, .int .i64 1] w fun e w' => e = .returned (.int .i64 (1 + (l.length : Int) * 4)) ∧ gtE.Sc w' B C v (marksG 1 l.length) ∧ Mid B C w w' := by
  refine (markGsB B C 1 v l w hv hm (by omega)).mono ?_
  rintro e w1 ⟨rfl, h⟩
  exact ⟨by simp, h⟩
set_option maxRecDepth 100000 in
set_option maxHeartbeats 3200000 in
theorem heldGsB (B k n : Nat) (v : Value) (w : World) (hv : gtE.Sl w B v (marksG k n)) (hm : n ≤ 16777216) (hk : k ≤ 1073741824) :
    Calls Try.prog 11 #[v, .int .i64 k] w fun e w' => e = .returned (.int .i64 ((k + n * 4 : Nat) : Int)) ∧ w = w' := by
  obtain ⟨a, cap, rfl, hcap, hr⟩ := hv
  rw [marksG_len] at hcap hr ⊢
  have Hr := Lib.hid hr
  clear hr
  go_enter Try.func11, Try.ntmps11
  go_wp2_with fail
  go_loopw [1, 5] (fun m i wr => ∃ j : Nat, j ≤ n ∧ m = .int .i64 ((k + j * 4 : Nat) : Int) ∧ i = .int .i64 j ∧ w = wr) (fun _ i _ => n - (intOf i).toNat)
  case atStart => exact ⟨0, Nat.zero_le _, by simp, rfl, rfl⟩
  case round =>
    obtain ⟨j, hj, rfl, rfl, rfl⟩ := hrel
    by_cases hlt : j < n
    · obtain ⟨g, rfl, hB, hrow⟩ := Hr.out (by omega)
      obtain ⟨c0, c1, c2, c3⟩ := GRow.cells hrow (marksG_at hlt)
      have m0 : (mk4 (k + j * 4)).k = (k : Int) + j * 4 := by simp [mk4]
      have m1 : (mk4 (k + j * 4)).a = (k : Int) + j * 4 + 1 := by simp [mk4]
      have m2 : (mk4 (k + j * 4)).b = (k : Int) + j * 4 + 1 + 1 := by simp [mk4]; omega
      have m3 : (mk4 (k + j * 4)).c = (k : Int) + j * 4 + 1 + 1 + 1 := by simp [mk4]; omega
      rw [m0] at c0; rw [m1] at c1; rw [m2] at c2; rw [m3] at c3
      clear m0 m1 m2 m3 hrow
      go_wp2_with fail
      go_roundw
      case rel => exact ⟨j + 1, by omega, by go_num, by go_num, trivial⟩
      case measure => simp [intOf]; omega
    · obtain rfl : j = n := by omega
      go_wp2_with fail
      go_ret
      exact ⟨rfl, rfl⟩
theorem heldG1B (B m : Nat) (v : Value) (w : World) (hv : gtE.Sl w B v (marksG 1 m)) (hm : m ≤ 16777216) :
    Calls Try.prog 11 #[v, .int .i64 1] w fun e w' => e = .returned (.int .i64 (1 + (m : Int) * 4)) ∧ w = w' := by
  refine (heldGsB B 1 m v w hv hm (by omega)).mono ?_
  rintro e w1 ⟨rfl, h⟩
  exact ⟨by simp, h⟩
end Go.Proofs.Ytlmiebeffdcfhaa
