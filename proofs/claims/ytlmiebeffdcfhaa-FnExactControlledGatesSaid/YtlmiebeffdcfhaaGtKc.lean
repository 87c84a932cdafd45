/- The program's InverseGate, GateQubits, ActsOn. -/
import Derived.Test.YtlmiebeffdcfhaaGtKb
namespace Go.Proofs.Ytlmiebeffdcfhaa
open Go.RowKit
/-- The box of a gate lies at B. -/
def GB (w : World) (B : Nat) (g : Gt) (w' : World) : Prop := w'.cell? ⟨B, 0, none⟩ = some (.int .i64 g.k) ∧ w'.cell? ⟨B, 1, none⟩ = some (.int .i64 g.a) ∧ w'.cell? ⟨B, 2, none⟩ = some (.int .i64 g.b) ∧ w'.cell? ⟨B, 3, none⟩ = some (.int .i64 g.c) ∧ B < w'.heap.size ∧ Below w.heap.size w w'
theorem GB.drew {w w1 : World} {B : Nat} {g : Gt} (h : GB w B g w1) : GB w B g w1.drew :=
  let ⟨c0, c1, c2, c3, z0, l⟩ := h; ⟨c0, c1, c2, c3, z0, l.drew⟩
theorem GB.alloc {w w1 : World} {B : Nat} {g : Gt} {o : Obj} (h : GB w B g w1) : GB w B g (w1.alloc o) :=
  let ⟨c0, c1, c2, c3, z0, l⟩ := h
  have e : ∀ k, (w1.alloc o).cell? ⟨B, k, none⟩ = w1.cell? ⟨B, k, none⟩ := fun k => (Below.refl w1.heap.size w1).alloc (Nat.le_refl _) o |>.cell (by exact z0)
  ⟨(e 0).trans c0, (e 1).trans c1, (e 2).trans c2, (e 3).trans c3, by simp; omega, l.alloc l.size o⟩
attribute [local irreducible] World.cell?
set_option maxRecDepth 100000 in
set_option maxHeartbeats 1600000 in
theorem iinvG (g : Gt) (w : World) : Calls Try.prog 65 #[(.agg #[.int .i64 g.k, .int .i64 g.a, .int .i64 g.b, .int .i64 g.c])] w fun e w' => e = .returned (.agg #[.int .i64 (invG g).k, .int .i64 (invG g).a, .int .i64 (invG g).b, .int .i64 (invG g).c]) ∧ Below w.heap.size w w' := by
  obtain ⟨k, a, b, c⟩ := g
  have Hk := Lib.hid (fun w => ikind k w)
  rcases kind_cases k with h | h | rfl | h
  · rw [kV_one h] at Hk
    have hk : ar k = 1 := if_pos h
    have h1 := as11
    rw [show invG ⟨k, a, b, c⟩ = ⟨invK k, a, b, c⟩ from rfl]
    clear h hk
    generalize decide (k ≤ 6) = t at *
    generalize invK k = i at *
    go_enter Try.func65, Try.ntmps65
    go_wp2_with fail
    refine (Hk.out _).mono ?_
    rintro e w1 ⟨rfl, rfl⟩
    go_wp2_with fail
    refine bodyPost_ret (v := (.agg #[.int .i64 (Gt.mk i a b c).k, .int .i64 (Gt.mk i a b c).a, .int .i64 (Gt.mk i a b c).b, .int .i64 (Gt.mk i a b c).c])) (by simp [results, Try.results65, go_sem]) rfl ⟨rfl, ?_⟩
    go_grown
  · rw [kV_two h] at Hk
    have hi : invK k = k := by unfold invK; rw [if_neg (by omega), if_neg (by omega), if_neg (by omega), if_neg (by omega)]
    rw [show invG ⟨k, a, b, c⟩ = ⟨k, a, b, c⟩ by unfold invG; rw [hi]]
    have h1 := as21
    clear h hi
    go_enter Try.func65, Try.ntmps65
    go_wp2_with fail
    refine (Hk.out _).mono ?_
    rintro e w1 ⟨rfl, rfl⟩
    go_wp2_with fail
    refine bodyPost_ret (v := (.agg #[.int .i64 (Gt.mk k a b c).k, .int .i64 (Gt.mk k a b c).a, .int .i64 (Gt.mk k a b c).b, .int .i64 (Gt.mk k a b c).c])) (by simp [results, Try.results65, go_sem]) rfl ⟨rfl, ?_⟩
    go_grown
  · have Hk' : Hid (∀ w, Calls Try.prog 62 #[.int .i64 12] w fun e w' => e = .returned (.iface 93 (.agg #[])) ∧ w = w') := Hk
    rw [show invG ⟨12, a, b, c⟩ = ⟨12, a, b, c⟩ from rfl]
    clear Hk
    have h1 := as31
    go_enter Try.func65, Try.ntmps65
    go_wp2_with fail
    refine (Hk'.out _).mono ?_
    rintro e w1 ⟨rfl, rfl⟩
    go_wp2_with fail
    refine bodyPost_ret (v := (.agg #[.int .i64 (Gt.mk 12 a b c).k, .int .i64 (Gt.mk 12 a b c).a, .int .i64 (Gt.mk 12 a b c).b, .int .i64 (Gt.mk 12 a b c).c])) (by simp [results, Try.results65, go_sem]) rfl ⟨rfl, ?_⟩
    go_grown
  · rw [kV_no h] at Hk
    have hi : invK k = k := by unfold invK; rw [if_neg (by omega), if_neg (by omega), if_neg (by omega), if_neg (by omega)]
    rw [show invG ⟨k, a, b, c⟩ = ⟨k, a, b, c⟩ by unfold invG; rw [hi]]
    have h1 := as01
    clear h hi
    go_enter Try.func65, Try.ntmps65
    go_wp2_with fail
    refine (Hk.out _).mono ?_
    rintro e w1 ⟨rfl, rfl⟩
    go_wp2_with fail
    refine bodyPost_ret (v := (.agg #[.int .i64 (Gt.mk k a b c).k, .int .i64 (Gt.mk k a b c).a, .int .i64 (Gt.mk k a b c).b, .int .i64 (Gt.mk k a b c).c])) (by simp [results, Try.results65, go_sem]) rfl ⟨rfl, ?_⟩
    go_grown
set_option maxRecDepth 100000 in
set_option maxHeartbeats 3200000 in
theorem igqs0 (g : Gt) (w : World) : Calls Try.prog 30 #[(.agg #[.int .i64 g.k, .int .i64 g.a, .int .i64 g.b, .int .i64 g.c])] w fun e w' => e = .returned (.slice (some ⟨w.heap.size + 1, 0, none⟩) (ar g.k) 3) ∧ intE.Row w' (w.heap.size + 1) (gqs g) ∧ Below w.heap.size w w' := by
  have Ha := Lib.hid (fun w => iar0 g.k w)
  have HX := Lib.hid (heap_alloc_new w (.cells #[.int .i64 g.k, .int .i64 g.a, .int .i64 g.b, .int .i64 g.c] 27))
  have hb0 : Below w.heap.size w (w.alloc (.cells #[.int .i64 g.k, .int .i64 g.a, .int .i64 g.b, .int .i64 g.c] 27)) := by go_grown
  obtain ⟨c0, c1, c2, c3⟩ := blk_cells HX.out
  have hS : GB w w.heap.size g (w.alloc (.cells #[.int .i64 g.k, .int .i64 g.a, .int .i64 g.b, .int .i64 g.c] 27)) := ⟨c0, c1, c2, c3, by simp, hb0⟩
  have h3 := ar_le g.k
  have hR : intE.Row (((w.alloc (.cells #[.int .i64 g.k, .int .i64 g.a, .int .i64 g.b, .int .i64 g.c] 27)).alloc (.cells #[.int .i64 g.a, .int .i64 g.b, .int .i64 g.c] 3)).drew) (w.heap.size + 1) (gqs g) := by
    have h1 : ((w.alloc (.cells #[.int .i64 g.k, .int .i64 g.a, .int .i64 g.b, .int .i64 g.c] 27)).alloc (.cells #[.int .i64 g.a, .int .i64 g.b, .int .i64 g.c] 3)).drew.heap[w.heap.size + 1]? = some (.cells #[.int .i64 g.a, .int .i64 g.b, .int .i64 g.c] 3 (0, 0)) := by
      have h := heap_alloc_new (w.alloc (.cells #[.int .i64 g.k, .int .i64 g.a, .int .i64 g.b, .int .i64 g.c] 27)) (.cells #[.int .i64 g.a, .int .i64 g.b, .int .i64 g.c] 3)
      rw [show (w.alloc (.cells #[.int .i64 g.k, .int .i64 g.a, .int .i64 g.b, .int .i64 g.c] 27)).heap.size = w.heap.size + 1 by simp] at h
      exact h
    exact Enc.Row.take (E := intE) (l := [g.a, g.b, g.c]) ⟨#[.int .i64 g.a, .int .i64 g.b, .int .i64 g.c], h1, rfl⟩ (ar g.k)
  have hV := Lib.hid hR
  have hB := Lib.hid (show Below w.heap.size w (((w.alloc (.cells #[.int .i64 g.k, .int .i64 g.a, .int .i64 g.b, .int .i64 g.c] 27)).alloc (.cells #[.int .i64 g.a, .int .i64 g.b, .int .i64 g.c] 3)).drew) by go_grown)
  clear hR
  generalize ar g.k = t at *
  have ht : (t : Int) ≤ 3 := by omega
  clear hb0
  go_enter Try.func30, Try.ntmps30
  go_upto_region 1 with fail
  go_region_held3 (fun w' => w'.cell? ⟨w.heap.size, 0, none⟩ = some (.int .i64 g.k) ∧ w'.cell? ⟨w.heap.size, 1, none⟩ = some (.int .i64 g.a) ∧ w'.cell? ⟨w.heap.size, 2, none⟩ = some (.int .i64 g.b) ∧ w'.cell? ⟨w.heap.size, 3, none⟩ = some (.int .i64 g.c) ∧ w.heap.size < w'.heap.size ∧ Below w.heap.size w w') (first | (show GB _ _ _ _; (with_reducible exact hS.drew)) | (show GB _ _ _ _; (with_reducible exact (GB.alloc hS).drew)) | (show GB _ _ _ _; exact (GB.alloc hS).drew) | (show GB _ _ _ _; (with_reducible refine GB.alloc ?_); first | assumption | exact ⟨by assumption, by assumption, by assumption, by assumption, by assumption, by assumption⟩))
    (first | (go_at_call 49; refine (Ha.out _).mono ?_; rintro e wR ⟨rfl, rfl⟩))
  all_goals go_wp2_with fail
  all_goals go_ret
  all_goals exact ⟨rfl, hV.out, hB.out⟩
set_option maxRecDepth 100000 in
set_option maxHeartbeats 3200000 in
theorem igqs1 (g : Gt) (w : World) : Calls Try.prog 30 #[(.agg #[.int .i64 g.k, .int .i64 g.a, .int .i64 g.b, .int .i64 g.c])] w fun e w' => ∃ b cap, e = .returned (.slice (some ⟨b, 0, none⟩) (gqs g).length cap) ∧ AR w' b (gqs g) ∧ Below w.heap.size w w' := by
  rw [gqs_len]
  exact (igqs0 g w).mono fun e w' h => ⟨_, _, h.1, AR.of_row h.2.1, h.2.2⟩
theorem igqs (g : Gt) (w : World) : Calls Try.prog 30 #[(.agg #[.int .i64 g.k, .int .i64 g.a, .int .i64 g.b, .int .i64 g.c])] w fun e w' => ∃ v, e = .returned v ∧ intE.Sl w' w.heap.size v (gqs g) ∧ Below w.heap.size w w' :=
  (igqs0 g w).mono fun e w' h => ⟨_, h.1, Enc.Sl.mk (gqs_len g).symm (ar_le _) (by omega) h.2.1, h.2.2⟩
/-- ActsOn. -/
theorem gqs_row (g : Gt) : (gqs g).length ≤ 3 := by rw [gqs_len]; exact ar_le _
end Go.Proofs.Ytlmiebeffdcfhaa
