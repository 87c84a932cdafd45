/- BaseB02: several of our texts in one: ZwV ZwA Draw1. -/
import Derived.Test.YtkcpemkahkkcmaaBaseB01
import Derived.Test.YtkcpemkahkkcmaaRows
import Derived.WalkKit
import Derived.WalkSpells
import Derived.WalkLawsBesides
import Derived.Lib.Hide
import Derived.OneCell
import Derived.WalkSmall
import Derived.Handy
import Derived.Deep.QuietTactic
import Derived.BigQuiet
namespace Go.Proofs.Ytkcpemkahkkcmaa
open Go.RowKit
attribute [local irreducible] World.cell?
theorem bcell {W w1 : World} (hb : Below W.heap.size W w1) : (∀ b o, b < W.heap.size → w1.cell? ⟨b, o, none⟩ = W.cell? ⟨b, o, none⟩) ∧ (∀ b o, b < W.heap.size → w1.frozen? ⟨b, o, none⟩ = W.frozen? ⟨b, o, none⟩) :=
  ⟨fun b o h => hb.cell (p := ⟨b, o, none⟩) h, fun b o h => hb.frozen (p := ⟨b, o, none⟩) h⟩
set_option maxRecDepth 100000 in
set_option maxHeartbeats 400000 in
theorem coefs (x : Zw) (w : World) :
    Calls Try.prog 184 #[(.agg #[.int .i64 x.a, .int .i64 x.b, .int .i64 x.c, .int .i64 x.d])] w fun e w' => e = .returned (.agg #[.int .i64 x.a, .int .i64 x.b, .int .i64 x.c, .int .i64 x.d]) ∧ Below w.heap.size w w' := by
  go_enter Try.func184, Try.ntmps184
  go_wp2_with fail
  go_returns
  exact ⟨rfl, by go_grown⟩
theorem idx4 (a b c d : Value) (w : World) :
    (Instr.index 175 (.agg #[a, b, c, d]) (.int .i64 0)).run Try.prog w = .ok a w ∧
    (Instr.index 175 (.agg #[a, b, c, d]) (.int .i64 1)).run Try.prog w = .ok b w ∧
    (Instr.index 175 (.agg #[a, b, c, d]) (.int .i64 2)).run Try.prog w = .ok c w ∧
    (Instr.index 175 (.agg #[a, b, c, d]) (.int .i64 3)).run Try.prog w = .ok d w :=
  ⟨by kernel_rfl, by kernel_rfl, by kernel_rfl, by kernel_rfl⟩
set_option maxRecDepth 100000 in
set_option maxHeartbeats 800000 in
theorem ivalid_yes (x : Zw) (w : World) (h : x.ok) :
    Calls Try.prog 162 #[(.agg #[.int .i64 x.a, .int .i64 x.b, .int .i64 x.c, .int .i64 x.d])] w fun e w' => e = .returned (.bool true) ∧ Below w.heap.size w w' := by
  obtain ⟨a, b, c, d⟩ := x
  obtain ⟨⟨a0, a1⟩, ⟨b0, b1⟩, ⟨c0, c1⟩, ⟨d0, d1⟩⟩ := h
  simp only [] at a0 a1 b0 b1 c0 c1 d0 d1
  go_enter Try.func162, Try.ntmps162
  go_wp2_with fail
  refine (coefs ⟨a, b, c, d⟩ _).mono ?_
  rintro e w1 ⟨rfl, hb1⟩
  have hb2 := ((Below.refl _ _).alloc (Nat.le_refl _) _).trans (hb1.mono (by simp))
  obtain ⟨i0, i1, i2, i3⟩ := idx4 (.int .i64 a) (.int .i64 b) (.int .i64 c) (.int .i64 d) w1
  have Hb := Lib.hid hb2
  clear hb1 hb2
  go_wp2_with fail
  go_rounds 5
  go_returns
  exact ⟨rfl, Hb.out⟩
set_option maxRecDepth 100000 in
set_option maxHeartbeats 800000 in
theorem ivalid_no (x : Zw) (w : World) (h : ¬ x.ok) :
    Calls Try.prog 162 #[(.agg #[.int .i64 x.a, .int .i64 x.b, .int .i64 x.c, .int .i64 x.d])] w fun e w' => e = .returned (.bool false) ∧ Below w.heap.size w w' := by
  obtain ⟨a, b, c, d⟩ := x
  have h' : ¬ (Near a ∧ Near b ∧ Near c ∧ Near d) := h
  simp only [Near] at h'
  clear h
  have H := Lib.hid h'
  clear h'
  go_enter Try.func162, Try.ntmps162
  go_wp2_with fail
  refine (coefs ⟨a, b, c, d⟩ _).mono ?_
  rintro e w1 ⟨rfl, hb1⟩
  have hb2 := ((Below.refl _ _).alloc (Nat.le_refl _) _).trans (hb1.mono (by simp))
  obtain ⟨i0, i1, i2, i3⟩ := idx4 (.int .i64 a) (.int .i64 b) (.int .i64 c) (.int .i64 d) w1
  have Hb := Lib.hid hb2
  clear hb1 hb2
  go_wp2_with fail
  go_rounds 5
  all_goals go_returns
  all_goals first
    | exact ⟨rfl, Hb.out⟩
    | (exfalso; have := H.out; omega)
theorem ivalid_any (x : Zw) (b : Bool) (w : World) (h : okB x = b) :
    Calls Try.prog 162 #[(.agg #[.int .i64 x.a, .int .i64 x.b, .int .i64 x.c, .int .i64 x.d])] w fun e w' => e = .returned (.bool b) ∧ Below w.heap.size w w' := by
  cases b
  · exact ivalid_no x w (okB_false.1 h)
  · exact ivalid_yes x w (okB_true.1 h)
set_option maxRecDepth 100000 in
set_option maxHeartbeats 400000 in
theorem near_yes (n : Int) (w : World) (h : Near n) :
    Calls Try.prog 185 #[.int .i64 n] w fun e w' => e = .returned (.bool true) ∧ w = w' := by
  obtain ⟨h0, h1⟩ := h
  go_enter Try.func185, Try.ntmps185
  go_wp2_with (go_at_call 73; go_in)
  go_ret
  exact ⟨rfl, rfl⟩
set_option maxRecDepth 100000 in
set_option maxHeartbeats 400000 in
theorem near_no (n : Int) (w : World) (h : ¬ Near n) :
    Calls Try.prog 185 #[.int .i64 n] w fun e w' => e = .returned (.bool false) ∧ w = w' := by
  have h' : n < -1073741824 ∨ 1073741824 < n := by unfold Near at h; omega
  clear h
  rcases h' with h | h
  · go_enter Try.func185, Try.ntmps185
    go_wp2_with (go_at_call 73; go_in)
    go_ret
    exact ⟨rfl, rfl⟩
  · have h0 : -1073741824 ≤ n := by omega
    have hd : decide (n ≤ 1073741824) = false := by simpa using h
    go_enter Try.func185, Try.ntmps185
    go_wp2_with (go_at_call 73; go_in)
    go_ret
    exact ⟨rfl, rfl⟩
set_option maxRecDepth 100000 in
set_option maxHeartbeats 800000 in
theorem svalid_yes (x : Zw) (w : World) (h : x.ok) :
    Calls Try.prog 164 #[(.agg #[.int .i64 x.a, .int .i64 x.b, .int .i64 x.c, .int .i64 x.d])] w fun e w' => e = .returned (.bool true) ∧ Below w.heap.size w w' := by
  obtain ⟨a, b, c, d⟩ := x
  obtain ⟨ha, hb, hc, hd⟩ := h
  have Ha := Lib.hid ha
  have Hb := Lib.hid hb
  have Hc := Lib.hid hc
  have Hd := Lib.hid hd
  clear ha hb hc hd
  simp only [] at Ha Hb Hc Hd
  go_enter Try.func164, Try.ntmps164
  go_wp2_with fail
  refine (near_yes a _ Ha.out).mono ?_
  rintro e w1 ⟨rfl, rfl⟩
  go_wp2_with fail
  refine (near_yes b _ Hb.out).mono ?_
  rintro e w1 ⟨rfl, rfl⟩
  go_wp2_with fail
  refine (near_yes c _ Hc.out).mono ?_
  rintro e w1 ⟨rfl, rfl⟩
  go_wp2_with fail
  refine (near_yes d _ Hd.out).mono ?_
  rintro e w1 ⟨rfl, rfl⟩
  go_wp2_with fail
  go_returns
  exact ⟨rfl, by go_grown⟩
set_option maxRecDepth 100000 in
set_option maxHeartbeats 1600000 in
theorem svalid_no (x : Zw) (w : World) (h : ¬ x.ok) :
    Calls Try.prog 164 #[(.agg #[.int .i64 x.a, .int .i64 x.b, .int .i64 x.c, .int .i64 x.d])] w fun e w' => e = .returned (.bool false) ∧ Below w.heap.size w w' := by
  obtain ⟨a, b, c, d⟩ := x
  have H : Near a → Near b → Near c → ¬ Near d := fun p q r s => h ⟨p, q, r, s⟩
  clear h
  have Hd := Lib.hid H
  clear H
  go_enter Try.func164, Try.ntmps164
  go_wp2_with fail
  by_cases ha : Near a
  · have Ha := Lib.hid ha
    clear ha
    refine (near_yes a _ Ha.out).mono ?_
    rintro e w1 ⟨rfl, rfl⟩
    go_wp2_with fail
    by_cases hb : Near b
    · have Hb := Lib.hid hb
      clear hb
      refine (near_yes b _ Hb.out).mono ?_
      rintro e w1 ⟨rfl, rfl⟩
      go_wp2_with fail
      by_cases hc : Near c
      · have Hc := Lib.hid hc
        clear hc
        refine (near_yes c _ Hc.out).mono ?_
        rintro e w1 ⟨rfl, rfl⟩
        go_wp2_with fail
        refine (near_no d _ (Hd.out Ha.out Hb.out Hc.out)).mono ?_
        rintro e w1 ⟨rfl, rfl⟩
        go_wp2_with fail
        go_returns
        exact ⟨rfl, by go_grown⟩
      · refine (near_no c _ hc).mono ?_
        rintro e w1 ⟨rfl, rfl⟩
        clear hc
        go_wp2_with fail
        go_returns
        exact ⟨rfl, by go_grown⟩
    · refine (near_no b _ hb).mono ?_
      rintro e w1 ⟨rfl, rfl⟩
      clear hb
      go_wp2_with fail
      go_returns
      exact ⟨rfl, by go_grown⟩
  · refine (near_no a _ ha).mono ?_
    rintro e w1 ⟨rfl, rfl⟩
    clear ha
    go_wp2_with fail
    go_returns
    exact ⟨rfl, by go_grown⟩
theorem svalid_any (x : Zw) (b : Bool) (w : World) (h : okB x = b) :
    Calls Try.prog 164 #[(.agg #[.int .i64 x.a, .int .i64 x.b, .int .i64 x.c, .int .i64 x.d])] w fun e w' => e = .returned (.bool b) ∧ Below w.heap.size w w' := by
  cases b
  · exact svalid_no x w (okB_false.1 h)
  · exact svalid_yes x w (okB_true.1 h)
end Go.Proofs.Ytkcpemkahkkcmaa
namespace Go.Proofs.Ytkcpemkahkkcmaa
open Go.RowKit
attribute [local irreducible] World.cell?
theorem below_up {B : Nat} {w w1 w2 : World} (h1 : Below B w w1) (h2 : Below w1.heap.size w1 w2) (hB : B ≤ w1.heap.size) : Below B w w2 := h1.trans (h2.mono hB)
set_option maxRecDepth 100000 in
set_option maxHeartbeats 800000 in
theorem ineg_yes (x : Zw) (w : World) (h : x.ok) :
    Calls Try.prog 199 #[(.agg #[.int .i64 x.a, .int .i64 x.b, .int .i64 x.c, .int .i64 x.d])] w fun e w' => e = .returned (.agg #[.int .i64 x.neg.a, .int .i64 x.neg.b, .int .i64 x.neg.c, .int .i64 x.neg.d]) ∧ Below w.heap.size w w' := by
  obtain ⟨a, b, c, d⟩ := x
  have Hv := Lib.hid (okB_true.2 h)
  obtain ⟨⟨a0, a1⟩, ⟨b0, b1⟩, ⟨c0, c1⟩, ⟨d0, d1⟩⟩ := h
  simp only [] at a0 a1 b0 b1 c0 c1 d0 d1
  go_enter Try.func199, Try.ntmps199
  go_wp2_with fail
  refine (ivalid_any ⟨a, b, c, d⟩ true _ Hv.out).mono ?_
  rintro e w1 ⟨rfl, hb1⟩
  have hs1 := hb1.size
  simp at hs1
  obtain ⟨hc, hf⟩ := bcell hb1
  go_wp2_with fail
  refine bodyPost_ret (v := (.agg #[.int .i64 ((Zw.mk a b c d).neg).a, .int .i64 ((Zw.mk a b c d).neg).b, .int .i64 ((Zw.mk a b c d).neg).c, .int .i64 ((Zw.mk a b c d).neg).d])) (by simp [results, Try.results199, go_sem, hc, Zw.neg]) rfl ⟨rfl, ?_⟩
  have hb2 := below_up (B := w.heap.size) (w := w) (by go_grown) hb1 (by simp; omega)
  go_grown
set_option maxRecDepth 100000 in
set_option maxHeartbeats 800000 in
theorem ineg_no (x : Zw) (w : World) (h : ¬ x.ok) :
    Calls Try.prog 199 #[(.agg #[.int .i64 x.a, .int .i64 x.b, .int .i64 x.c, .int .i64 x.d])] w fun e w' => e = .returned (.agg #[.int .i64 Zw.zero.a, .int .i64 Zw.zero.b, .int .i64 Zw.zero.c, .int .i64 Zw.zero.d]) ∧ Below w.heap.size w w' := by
  obtain ⟨a, b, c, d⟩ := x
  have Hv := Lib.hid (okB_false.2 h)
  clear h
  go_enter Try.func199, Try.ntmps199
  go_wp2_with fail
  refine (ivalid_any ⟨a, b, c, d⟩ false _ Hv.out).mono ?_
  rintro e w1 ⟨rfl, hb1⟩
  have hs1 := hb1.size
  simp at hs1
  obtain ⟨hc, hf⟩ := bcell hb1
  go_wp2_with fail
  refine bodyPost_ret (v := (.agg #[.int .i64 Zw.zero.a, .int .i64 Zw.zero.b, .int .i64 Zw.zero.c, .int .i64 Zw.zero.d])) (by simp [results, Try.results199, go_sem, hc, Zw.zero]) rfl ⟨rfl, ?_⟩
  have hb2 := below_up (B := w.heap.size) (w := w) (by go_grown) hb1 (by simp; omega)
  go_grown
theorem ineg_any (x : Zw) (w : World) :
    Calls Try.prog 199 #[(.agg #[.int .i64 x.a, .int .i64 x.b, .int .i64 x.c, .int .i64 x.d])] w fun e w' => e = .returned (.agg #[.int .i64 (negV x).a, .int .i64 (negV x).b, .int .i64 (negV x).c, .int .i64 (negV x).d]) ∧ Below w.heap.size w w' := by
  unfold negV
  by_cases h : x.ok
  · rw [if_pos h]; exact ineg_yes x w h
  · rw [if_neg h]; exact ineg_no x w h
set_option maxRecDepth 100000 in
set_option maxHeartbeats 800000 in
theorem iconj_yes (x : Zw) (w : World) (h : x.ok) :
    Calls Try.prog 117 #[(.agg #[.int .i64 x.a, .int .i64 x.b, .int .i64 x.c, .int .i64 x.d])] w fun e w' => e = .returned (.agg #[.int .i64 x.conj.a, .int .i64 x.conj.b, .int .i64 x.conj.c, .int .i64 x.conj.d]) ∧ Below w.heap.size w w' := by
  obtain ⟨a, b, c, d⟩ := x
  have Hv := Lib.hid (okB_true.2 h)
  obtain ⟨⟨a0, a1⟩, ⟨b0, b1⟩, ⟨c0, c1⟩, ⟨d0, d1⟩⟩ := h
  simp only [] at a0 a1 b0 b1 c0 c1 d0 d1
  go_enter Try.func117, Try.ntmps117
  go_wp2_with fail
  refine (ivalid_any ⟨a, b, c, d⟩ true _ Hv.out).mono ?_
  rintro e w1 ⟨rfl, hb1⟩
  have hs1 := hb1.size
  simp at hs1
  obtain ⟨hc, hf⟩ := bcell hb1
  go_wp2_with fail
  refine bodyPost_ret (v := (.agg #[.int .i64 ((Zw.mk a b c d).conj).a, .int .i64 ((Zw.mk a b c d).conj).b, .int .i64 ((Zw.mk a b c d).conj).c, .int .i64 ((Zw.mk a b c d).conj).d])) (by simp [results, Try.results117, go_sem, hc, Zw.conj]) rfl ⟨rfl, ?_⟩
  have hb2 := below_up (B := w.heap.size) (w := w) (by go_grown) hb1 (by simp; omega)
  go_grown
set_option maxRecDepth 100000 in
set_option maxHeartbeats 800000 in
theorem iconj_no (x : Zw) (w : World) (h : ¬ x.ok) :
    Calls Try.prog 117 #[(.agg #[.int .i64 x.a, .int .i64 x.b, .int .i64 x.c, .int .i64 x.d])] w fun e w' => e = .returned (.agg #[.int .i64 Zw.zero.a, .int .i64 Zw.zero.b, .int .i64 Zw.zero.c, .int .i64 Zw.zero.d]) ∧ Below w.heap.size w w' := by
  obtain ⟨a, b, c, d⟩ := x
  have Hv := Lib.hid (okB_false.2 h)
  clear h
  go_enter Try.func117, Try.ntmps117
  go_wp2_with fail
  refine (ivalid_any ⟨a, b, c, d⟩ false _ Hv.out).mono ?_
  rintro e w1 ⟨rfl, hb1⟩
  have hs1 := hb1.size
  simp at hs1
  obtain ⟨hc, hf⟩ := bcell hb1
  go_wp2_with fail
  refine bodyPost_ret (v := (.agg #[.int .i64 Zw.zero.a, .int .i64 Zw.zero.b, .int .i64 Zw.zero.c, .int .i64 Zw.zero.d])) (by simp [results, Try.results117, go_sem, hc, Zw.zero]) rfl ⟨rfl, ?_⟩
  have hb2 := below_up (B := w.heap.size) (w := w) (by go_grown) hb1 (by simp; omega)
  go_grown
theorem iconj_any (x : Zw) (w : World) :
    Calls Try.prog 117 #[(.agg #[.int .i64 x.a, .int .i64 x.b, .int .i64 x.c, .int .i64 x.d])] w fun e w' => e = .returned (.agg #[.int .i64 (conjV x).a, .int .i64 (conjV x).b, .int .i64 (conjV x).c, .int .i64 (conjV x).d]) ∧ Below w.heap.size w w' := by
  unfold conjV
  by_cases h : x.ok
  · rw [if_pos h]; exact iconj_yes x w h
  · rw [if_neg h]; exact iconj_no x w h
set_option maxRecDepth 100000 in
set_option maxHeartbeats 800000 in
theorem sneg_yes (x : Zw) (w : World) (h : x.ok) :
    Calls Try.prog 172 #[(.agg #[.int .i64 x.a, .int .i64 x.b, .int .i64 x.c, .int .i64 x.d])] w fun e w' => e = .returned (.agg #[.int .i64 x.neg.a, .int .i64 x.neg.b, .int .i64 x.neg.c, .int .i64 x.neg.d]) ∧ Below w.heap.size w w' := by
  obtain ⟨a, b, c, d⟩ := x
  have Hv := Lib.hid (okB_true.2 h)
  obtain ⟨⟨a0, a1⟩, ⟨b0, b1⟩, ⟨c0, c1⟩, ⟨d0, d1⟩⟩ := h
  simp only [] at a0 a1 b0 b1 c0 c1 d0 d1
  go_enter Try.func172, Try.ntmps172
  go_wp2_with fail
  refine (svalid_any ⟨a, b, c, d⟩ true _ Hv.out).mono ?_
  rintro e w1 ⟨rfl, hb1⟩
  have hs1 := hb1.size
  simp at hs1
  obtain ⟨hc, hf⟩ := bcell hb1
  go_wp2_with fail
  refine bodyPost_ret (v := (.agg #[.int .i64 ((Zw.mk a b c d).neg).a, .int .i64 ((Zw.mk a b c d).neg).b, .int .i64 ((Zw.mk a b c d).neg).c, .int .i64 ((Zw.mk a b c d).neg).d])) (by simp [results, Try.results172, go_sem, hc, Zw.neg]) rfl ⟨rfl, ?_⟩
  have hb2 := below_up (B := w.heap.size) (w := w) (by go_grown) hb1 (by simp; omega)
  go_grown
set_option maxRecDepth 100000 in
set_option maxHeartbeats 800000 in
theorem sneg_no (x : Zw) (w : World) (h : ¬ x.ok) :
    Calls Try.prog 172 #[(.agg #[.int .i64 x.a, .int .i64 x.b, .int .i64 x.c, .int .i64 x.d])] w fun e w' => e = .returned (.agg #[.int .i64 Zw.zero.a, .int .i64 Zw.zero.b, .int .i64 Zw.zero.c, .int .i64 Zw.zero.d]) ∧ Below w.heap.size w w' := by
  obtain ⟨a, b, c, d⟩ := x
  have Hv := Lib.hid (okB_false.2 h)
  clear h
  go_enter Try.func172, Try.ntmps172
  go_wp2_with fail
  refine (svalid_any ⟨a, b, c, d⟩ false _ Hv.out).mono ?_
  rintro e w1 ⟨rfl, hb1⟩
  have hs1 := hb1.size
  simp at hs1
  obtain ⟨hc, hf⟩ := bcell hb1
  go_wp2_with fail
  refine bodyPost_ret (v := (.agg #[.int .i64 Zw.zero.a, .int .i64 Zw.zero.b, .int .i64 Zw.zero.c, .int .i64 Zw.zero.d])) (by simp [results, Try.results172, go_sem, hc, Zw.zero]) rfl ⟨rfl, ?_⟩
  have hb2 := below_up (B := w.heap.size) (w := w) (by go_grown) hb1 (by simp; omega)
  go_grown
theorem sneg_any (x : Zw) (w : World) :
    Calls Try.prog 172 #[(.agg #[.int .i64 x.a, .int .i64 x.b, .int .i64 x.c, .int .i64 x.d])] w fun e w' => e = .returned (.agg #[.int .i64 (negV x).a, .int .i64 (negV x).b, .int .i64 (negV x).c, .int .i64 (negV x).d]) ∧ Below w.heap.size w w' := by
  unfold negV
  by_cases h : x.ok
  · rw [if_pos h]; exact sneg_yes x w h
  · rw [if_neg h]; exact sneg_no x w h
set_option maxRecDepth 100000 in
set_option maxHeartbeats 800000 in
theorem sconj_yes (x : Zw) (w : World) (h : x.ok) :
    Calls Try.prog 119 #[(.agg #[.int .i64 x.a, .int .i64 x.b, .int .i64 x.c, .int .i64 x.d])] w fun e w' => e = .returned (.agg #[.int .i64 x.conj.a, .int .i64 x.conj.b, .int .i64 x.conj.c, .int .i64 x.conj.d]) ∧ Below w.heap.size w w' := by
  obtain ⟨a, b, c, d⟩ := x
  have Hv := Lib.hid (okB_true.2 h)
  obtain ⟨⟨a0, a1⟩, ⟨b0, b1⟩, ⟨c0, c1⟩, ⟨d0, d1⟩⟩ := h
  simp only [] at a0 a1 b0 b1 c0 c1 d0 d1
  go_enter Try.func119, Try.ntmps119
  go_wp2_with fail
  refine (svalid_any ⟨a, b, c, d⟩ true _ Hv.out).mono ?_
  rintro e w1 ⟨rfl, hb1⟩
  have hs1 := hb1.size
  simp at hs1
  obtain ⟨hc, hf⟩ := bcell hb1
  go_wp2_with fail
  refine bodyPost_ret (v := (.agg #[.int .i64 ((Zw.mk a b c d).conj).a, .int .i64 ((Zw.mk a b c d).conj).b, .int .i64 ((Zw.mk a b c d).conj).c, .int .i64 ((Zw.mk a b c d).conj).d])) (by simp [results, Try.results119, go_sem, hc, Zw.conj]) rfl ⟨rfl, ?_⟩
  have hb2 := below_up (B := w.heap.size) (w := w) (by go_grown) hb1 (by simp; omega)
  go_grown
set_option maxRecDepth 100000 in
set_option maxHeartbeats 800000 in
theorem sconj_no (x : Zw) (w : World) (h : ¬ x.ok) :
    Calls Try.prog 119 #[(.agg #[.int .i64 x.a, .int .i64 x.b, .int .i64 x.c, .int .i64 x.d])] w fun e w' => e = .returned (.agg #[.int .i64 Zw.zero.a, .int .i64 Zw.zero.b, .int .i64 Zw.zero.c, .int .i64 Zw.zero.d]) ∧ Below w.heap.size w w' := by
  obtain ⟨a, b, c, d⟩ := x
  have Hv := Lib.hid (okB_false.2 h)
  clear h
  go_enter Try.func119, Try.ntmps119
  go_wp2_with fail
  refine (svalid_any ⟨a, b, c, d⟩ false _ Hv.out).mono ?_
  rintro e w1 ⟨rfl, hb1⟩
  have hs1 := hb1.size
  simp at hs1
  obtain ⟨hc, hf⟩ := bcell hb1
  go_wp2_with fail
  refine bodyPost_ret (v := (.agg #[.int .i64 Zw.zero.a, .int .i64 Zw.zero.b, .int .i64 Zw.zero.c, .int .i64 Zw.zero.d])) (by simp [results, Try.results119, go_sem, hc, Zw.zero]) rfl ⟨rfl, ?_⟩
  have hb2 := below_up (B := w.heap.size) (w := w) (by go_grown) hb1 (by simp; omega)
  go_grown
theorem sconj_any (x : Zw) (w : World) :
    Calls Try.prog 119 #[(.agg #[.int .i64 x.a, .int .i64 x.b, .int .i64 x.c, .int .i64 x.d])] w fun e w' => e = .returned (.agg #[.int .i64 (conjV x).a, .int .i64 (conjV x).b, .int .i64 (conjV x).c, .int .i64 (conjV x).d]) ∧ Below w.heap.size w w' := by
  unfold conjV
  by_cases h : x.ok
  · rw [if_pos h]; exact sconj_yes x w h
  · rw [if_neg h]; exact sconj_no x w h
end Go.Proofs.Ytkcpemkahkkcmaa
namespace Go.Proofs.Ytkcpemkahkkcmaa
open Go.RowKit
set_option maxRecDepth 100000 in
set_option maxHeartbeats 400000 in
theorem new_any (a0 : Option Addr) (len cap : Nat) (w : World) (hcode : CodeAt w w.heap.size a0 len) :
    Calls Try.prog 80 #[.slice a0 len cap] w fun e w' => e = .returned (.pointer (some ⟨w.heap.size, 0, none⟩)) ∧ CurAt w' w.heap.size ∧ Below w.heap.size w w' ∧ w.heap.size < w'.heap.size := by
  have hlen := hcode.1
  have Hc := Lib.hid hcode
  clear hcode
  go_enter Try.func80, Try.ntmps80
  go_wp2_with fail
  go_loop [3, 4] (fun h i => ∃ (k : Nat) (x : Int), k ≤ len ∧ i = .int .i64 k ∧ h = .int .i64 x) (fun _ i => len - (intOf i).toNat)
  case atStart => exact ⟨0, _, Nat.zero_le _, rfl, rfl⟩
  case round =>
    obtain ⟨k, x, hk, rfl, rfl⟩ := hrel
    by_cases hlt : k < len
    · obtain ⟨b, off, rfl, hbB, hcells⟩ := Hc.out.2 (by omega)
      obtain ⟨v, v0, v1, hv⟩ := hcells k hlt
      clear hcells
      by_cases h4 : k < 4000
      · go_wp2_with fail
        go_round
        case rel => exact ⟨k + 1, _, by omega, by go_num, rfl⟩
        case measure => simp [intOf]; omega
      · go_wp2_with fail
        go_ret
        exact ⟨rfl, ⟨_, len, cap, 0, _, by first | rfl | exact heap_alloc_new _ _, Nat.zero_le _, Hc.out.below ((Below.refl _ _).alloc (Nat.le_refl _) _)⟩, (Below.refl _ _).alloc (Nat.le_refl _) _, by simp⟩
    · go_wp2_with fail
      go_ret
      exact ⟨rfl, ⟨_, len, cap, 0, _, by first | rfl | exact heap_alloc_new _ _, Nat.zero_le _, Hc.out.below ((Below.refl _ _).alloc (Nat.le_refl _) _)⟩, (Below.refl _ _).alloc (Nat.le_refl _) _, by simp⟩
set_option maxRecDepth 100000 in
set_option maxHeartbeats 400000 in
theorem once_any (B : Nat) (n : Int) (w : World) (hcur : CurAt w B) (h1 : 1 ≤ n) (h2 : n ≤ 9223372036854775807) :
    Calls Try.prog 82 #[.pointer (some ⟨B, 0, none⟩), .int .i64 n] w fun e w' => (∃ x : Bool, e = .returned (.bool x)) ∧ CurAt w' B ∧ Own B w w' := by
  have Hc := Lib.hid hcur
  clear hcur
  go_enter Try.func82, Try.ntmps82
  go_wp2_with fail
  refine (below_any B n _ Hc.out h1 h2).mono ?_
  rintro e w1 ⟨⟨x, x0, x1, rfl⟩, hc1, ho1⟩
  have Hc1 := Lib.hid hc1
  have Ho1 := Lib.hid ho1
  clear hc1 ho1
  go_wp2_with fail
  go_ret
  exact ⟨⟨_, rfl⟩, Hc1.out, Ho1.out⟩
/-- A list that the call itself made: its cells, one an element. -/
def ListAt (w : World) (b n : Nat) (f : Nat → Value) : Prop := ∀ j, j < n → w.cell? ⟨b, j, none⟩ = some (f j)
theorem ListAt.own {w w' : World} {B b n : Nat} {f : Nat → Value} (h : ListAt w b n f) (ho : Own B w w') (hne : b ≠ B) : ListAt w' b n f := fun j hj =>
  World.grownBy.cell ho (h j hj) (by intro e; injection e with e; exact hne e)
set_option maxRecDepth 100000 in
set_option maxHeartbeats 400000 in
theorem pickInt_any (B b n cap : Nat) (f : Nat → Int) (w : World) (hcur : CurAt w B) (hl : ListAt w b n (fun j => .int .i64 (f j))) (hne : b ≠ B) (h1 : 1 ≤ n) (h2 : n ≤ 1000000) :
    Calls Try.prog 121 #[.pointer (some ⟨B, 0, none⟩), .slice (some ⟨b, 0, none⟩) n cap] w fun e w' => (∃ j : Nat, j < n ∧ e = .returned (.int .i64 (f j))) ∧ CurAt w' B ∧ Own B w w' := by
  have Hc := Lib.hid hcur
  have Hl := Lib.hid hl
  clear hcur hl
  go_enter Try.func121, Try.ntmps121
  go_wp2_with fail
  refine (below_any B n _ Hc.out (by omega) (by omega)).mono ?_
  rintro e w1 ⟨⟨x, x0, x1, rfl⟩, hc1, ho1⟩
  obtain ⟨j, rfl⟩ := Int.eq_ofNat_of_zero_le x0
  have hj : j < n := by omega
  have hcell := (Hl.out.own ho1 hne) j hj
  have Hc1 := Lib.hid hc1
  have Ho1 := Lib.hid ho1
  clear hc1 ho1
  go_wp2_with fail
  go_ret
  exact ⟨⟨j, hj, rfl⟩, Hc1.out, Ho1.out⟩
end Go.Proofs.Ytkcpemkahkkcmaa
