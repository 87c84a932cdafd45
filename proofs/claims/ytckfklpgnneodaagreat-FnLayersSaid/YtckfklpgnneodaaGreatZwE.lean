/- DivSqrt2 of the program. -/
import Derived.Test.YtckfklpgnneodaaGreatZwD
namespace Go.Proofs.YtckfklpgnneodaaGreat
open Go.RowKit
attribute [local irreducible] World.cell?
set_option maxRecDepth 100000 in
set_option maxHeartbeats 1600000 in
theorem idiv_yes (x p q r : Zw) (w : World)
    (hv : ∀ w, Calls Tryz.prog 125 #[(.agg #[.int .i64 x.a, .int .i64 x.b, .int .i64 x.c, .int .i64 x.d])] w fun e w' => e = .returned (.bool true) ∧ Below w.heap.size w w')
    (ht : ∀ w, Calls Tryz.prog 148 #[(.agg #[.int .i64 x.a, .int .i64 x.b, .int .i64 x.c, .int .i64 x.d])] w fun e w' => e = .returned (.agg #[.int .i64 p.a, .int .i64 p.b, .int .i64 p.c, .int .i64 p.d]) ∧ Below w.heap.size w w')
    (hh : ∀ w, Calls Tryz.prog 147 #[(.agg #[.int .i64 p.a, .int .i64 p.b, .int .i64 p.c, .int .i64 p.d])] w fun e w' => e = .returned (.agg #[.int .i64 q.a, .int .i64 q.b, .int .i64 q.c, .int .i64 q.d]) ∧ Below w.heap.size w w')
    (hq : ∀ w, Calls Tryz.prog 148 #[(.agg #[.int .i64 q.a, .int .i64 q.b, .int .i64 q.c, .int .i64 q.d])] w fun e w' => e = .returned (.agg #[.int .i64 r.a, .int .i64 r.b, .int .i64 r.c, .int .i64 r.d]) ∧ Below w.heap.size w w')
    (hn : ∀ w, (binOp .neq 164 (.agg #[.int .i64 r.a, .int .i64 r.b, .int .i64 r.c, .int .i64 r.d]) (.agg #[.int .i64 x.a, .int .i64 x.b, .int .i64 x.c, .int .i64 x.d])).run Tryz.prog w = .ok (.bool false) w) :
    Calls Tryz.prog 142 #[(.agg #[.int .i64 x.a, .int .i64 x.b, .int .i64 x.c, .int .i64 x.d])] w fun e w' => e = .returned (.tuple #[(.agg #[.int .i64 q.a, .int .i64 q.b, .int .i64 q.c, .int .i64 q.d]), .bool true]) ∧ Below w.heap.size w w' := by
  obtain ⟨xa, xb, xc, xd⟩ := x
  obtain ⟨pa, pb, pc, pd⟩ := p
  obtain ⟨qa, qb, qc, qd⟩ := q
  obtain ⟨ra, rb, rc, rd⟩ := r
  have Hv := Lib.hid hv
  have Ht := Lib.hid ht
  have Hh := Lib.hid hh
  have Hq := Lib.hid hq
  clear hv ht hh hq
  simp only [] at hn
  go_enter Tryz.func142, Tryz.ntmps142
  go_wp2_with fail
  refine (Hv.out _).mono ?_
  rintro e w1 ⟨rfl, hb1⟩
  have hs1 := hb1.size
  simp at hs1
  obtain ⟨hc1, hf1⟩ := bcell hb1
  have z10 : w.heap.size < w1.heap.size := by omega
  have z11 : w.heap.size + 1 < w1.heap.size := by omega
  have hp1 := below_up (B := w.heap.size) (w := w) (by go_grown) hb1 (by simp; omega)
  clear hb1
  go_wp2_with fail
  refine (coefs ⟨xa, xb, xc, xd⟩ _).mono ?_
  rintro e w2 ⟨rfl, hb2⟩
  have hs2 := hb2.size
  obtain ⟨hc2, hf2⟩ := bcell hb2
  have z20 : w.heap.size < w2.heap.size := by omega
  have z21 : w.heap.size + 1 < w2.heap.size := by omega
  have hp2 := below_up hp1 hb2 (by omega)
  clear hb2
  go_wp2_with fail
  refine (Ht.out _).mono ?_
  rintro e w3 ⟨rfl, hb3⟩
  have hs3 := hb3.size
  simp at hs3
  obtain ⟨hc3, hf3⟩ := bcell hb3
  have z30 : w.heap.size < w3.heap.size := by omega
  have z31 : w.heap.size + 1 < w3.heap.size := by omega
  have z32 : w2.heap.size < w3.heap.size := by omega
  have hp3 := below_up (B := w.heap.size) (w := w) (by go_grown) hb3 (by simp; omega)
  clear hb3
  go_wp2_with fail
  refine (Hh.out _).mono ?_
  rintro e w4 ⟨rfl, hb4⟩
  have hs4 := hb4.size
  obtain ⟨hc4, hf4⟩ := bcell hb4
  have z40 : w.heap.size < w4.heap.size := by omega
  have z41 : w.heap.size + 1 < w4.heap.size := by omega
  have z42 : w2.heap.size < w4.heap.size := by omega
  have hp4 := below_up hp3 hb4 (by omega)
  clear hb4
  go_wp2_with fail
  go_region_with (first | (go_at_call 148; refine (Hq.out _).mono ?_; rintro e w5 ⟨rfl, hb5⟩; have hs5 := hb5.size; simp at hs5; obtain ⟨hc5, hf5⟩ := bcell hb5; have z50 := Nat.lt_of_lt_of_le (Nat.lt_succ_of_lt z40) hs5; have z51 := Nat.lt_of_lt_of_le (Nat.lt_succ_of_lt z41) hs5; have z52 := Nat.lt_of_lt_of_le (Nat.lt_succ_of_lt z42) hs5; have z53 := Nat.lt_of_succ_le hs5; have Hb5 := Lib.hid hb5; clear hb5))
  all_goals go_wp2_with fail
  all_goals
    refine (elem ⟨qa, qb, qc, qd⟩ _).mono ?_
    rintro e w6 ⟨rfl, hb6⟩
    have hs6 := hb6.size
    obtain ⟨hc6, hf6⟩ := bcell hb6
    have z61 : w.heap.size + 1 < w6.heap.size := by omega
    have hp5 := below_up (B := w.heap.size) (w := w) (by go_grown) Hb5.out (by first | omega | (simp; done) | (simp; omega))
    have hp6 := below_up hp5 hb6 (by omega)
    go_wp2_with fail
    refine bodyPost_ret (v := .tuple #[(.agg #[.int .i64 ((Zw.mk qa qb qc qd)).a, .int .i64 ((Zw.mk qa qb qc qd)).b, .int .i64 ((Zw.mk qa qb qc qd)).c, .int .i64 ((Zw.mk qa qb qc qd)).d]), .bool true]) (by simp [results, Tryz.results142, go_sem, hc1, hc2, hc3, hc4, hc5, hc6, z20, z40, z11, z21, z31, z41, z51]) rfl ⟨rfl, ?_⟩
    go_grown
set_option maxRecDepth 100000 in
set_option maxHeartbeats 1600000 in
theorem idiv_no (x p q r : Zw) (w : World)
    (hv : ∀ w, Calls Tryz.prog 125 #[(.agg #[.int .i64 x.a, .int .i64 x.b, .int .i64 x.c, .int .i64 x.d])] w fun e w' => e = .returned (.bool true) ∧ Below w.heap.size w w')
    (ht : ∀ w, Calls Tryz.prog 148 #[(.agg #[.int .i64 x.a, .int .i64 x.b, .int .i64 x.c, .int .i64 x.d])] w fun e w' => e = .returned (.agg #[.int .i64 p.a, .int .i64 p.b, .int .i64 p.c, .int .i64 p.d]) ∧ Below w.heap.size w w')
    (hh : ∀ w, Calls Tryz.prog 147 #[(.agg #[.int .i64 p.a, .int .i64 p.b, .int .i64 p.c, .int .i64 p.d])] w fun e w' => e = .returned (.agg #[.int .i64 q.a, .int .i64 q.b, .int .i64 q.c, .int .i64 q.d]) ∧ Below w.heap.size w w')
    (hq : ∀ w, Calls Tryz.prog 148 #[(.agg #[.int .i64 q.a, .int .i64 q.b, .int .i64 q.c, .int .i64 q.d])] w fun e w' => e = .returned (.agg #[.int .i64 r.a, .int .i64 r.b, .int .i64 r.c, .int .i64 r.d]) ∧ Below w.heap.size w w')
    (hn : ∀ w, (binOp .neq 164 (.agg #[.int .i64 r.a, .int .i64 r.b, .int .i64 r.c, .int .i64 r.d]) (.agg #[.int .i64 x.a, .int .i64 x.b, .int .i64 x.c, .int .i64 x.d])).run Tryz.prog w = .ok (.bool true) w) :
    Calls Tryz.prog 142 #[(.agg #[.int .i64 x.a, .int .i64 x.b, .int .i64 x.c, .int .i64 x.d])] w fun e w' => e = .returned (.tuple #[(.agg #[.int .i64 Zw.zero.a, .int .i64 Zw.zero.b, .int .i64 Zw.zero.c, .int .i64 Zw.zero.d]), .bool false]) ∧ Below w.heap.size w w' := by
  obtain ⟨xa, xb, xc, xd⟩ := x
  obtain ⟨pa, pb, pc, pd⟩ := p
  obtain ⟨qa, qb, qc, qd⟩ := q
  obtain ⟨ra, rb, rc, rd⟩ := r
  have Hv := Lib.hid hv
  have Ht := Lib.hid ht
  have Hh := Lib.hid hh
  have Hq := Lib.hid hq
  clear hv ht hh hq
  simp only [] at hn
  go_enter Tryz.func142, Tryz.ntmps142
  go_wp2_with fail
  refine (Hv.out _).mono ?_
  rintro e w1 ⟨rfl, hb1⟩
  have hs1 := hb1.size
  simp at hs1
  obtain ⟨hc1, hf1⟩ := bcell hb1
  have z10 : w.heap.size < w1.heap.size := by omega
  have z11 : w.heap.size + 1 < w1.heap.size := by omega
  have hp1 := below_up (B := w.heap.size) (w := w) (by go_grown) hb1 (by simp; omega)
  clear hb1
  go_wp2_with fail
  refine (coefs ⟨xa, xb, xc, xd⟩ _).mono ?_
  rintro e w2 ⟨rfl, hb2⟩
  have hs2 := hb2.size
  obtain ⟨hc2, hf2⟩ := bcell hb2
  have z20 : w.heap.size < w2.heap.size := by omega
  have z21 : w.heap.size + 1 < w2.heap.size := by omega
  have hp2 := below_up hp1 hb2 (by omega)
  clear hb2
  go_wp2_with fail
  refine (Ht.out _).mono ?_
  rintro e w3 ⟨rfl, hb3⟩
  have hs3 := hb3.size
  simp at hs3
  obtain ⟨hc3, hf3⟩ := bcell hb3
  have z30 : w.heap.size < w3.heap.size := by omega
  have z31 : w.heap.size + 1 < w3.heap.size := by omega
  have z32 : w2.heap.size < w3.heap.size := by omega
  have hp3 := below_up (B := w.heap.size) (w := w) (by go_grown) hb3 (by simp; omega)
  clear hb3
  go_wp2_with fail
  refine (Hh.out _).mono ?_
  rintro e w4 ⟨rfl, hb4⟩
  have hs4 := hb4.size
  obtain ⟨hc4, hf4⟩ := bcell hb4
  have z40 : w.heap.size < w4.heap.size := by omega
  have z41 : w.heap.size + 1 < w4.heap.size := by omega
  have z42 : w2.heap.size < w4.heap.size := by omega
  have hp4 := below_up hp3 hb4 (by omega)
  clear hb4
  go_wp2_with fail
  go_region_with (first | (go_at_call 148; refine (Hq.out _).mono ?_; rintro e w5 ⟨rfl, hb5⟩; have hs5 := hb5.size; simp at hs5; obtain ⟨hc5, hf5⟩ := bcell hb5; have z50 := Nat.lt_of_lt_of_le (Nat.lt_succ_of_lt z40) hs5; have z51 := Nat.lt_of_lt_of_le (Nat.lt_succ_of_lt z41) hs5; have z52 := Nat.lt_of_lt_of_le (Nat.lt_succ_of_lt z42) hs5; have z53 := Nat.lt_of_succ_le hs5; have Hb5 := Lib.hid hb5; clear hb5))
  all_goals go_wp2_with fail
  all_goals
    have hp5 := below_up (B := w.heap.size) (w := w) (by go_grown) Hb5.out (by first | omega | (simp; done) | (simp; omega))
    refine bodyPost_ret (v := .tuple #[(.agg #[.int .i64 Zw.zero.a, .int .i64 Zw.zero.b, .int .i64 Zw.zero.c, .int .i64 Zw.zero.d]), .bool false]) (by simp [results, Tryz.results142, go_sem, hc1, hc2, hc3, hc4, hc5, z20, z40, z11, z21, z31, z41, Zw.zero]) rfl ⟨rfl, ?_⟩
    go_grown
set_option maxRecDepth 100000 in
set_option maxHeartbeats 800000 in
theorem idiv_bad (x : Zw) (w : World) (h : ¬ x.ok) :
    Calls Tryz.prog 142 #[(.agg #[.int .i64 x.a, .int .i64 x.b, .int .i64 x.c, .int .i64 x.d])] w fun e w' => e = .returned (.tuple #[(.agg #[.int .i64 Zw.zero.a, .int .i64 Zw.zero.b, .int .i64 Zw.zero.c, .int .i64 Zw.zero.d]), .bool false]) ∧ Below w.heap.size w w' := by
  obtain ⟨a, b, c, d⟩ := x
  have Hv := Lib.hid (okB_false.2 h)
  clear h
  go_enter Tryz.func142, Tryz.ntmps142
  go_wp2_with fail
  refine (ivalid_any ⟨a, b, c, d⟩ false _ Hv.out).mono ?_
  rintro e w1 ⟨rfl, hb1⟩
  have hs1 := hb1.size
  simp at hs1
  obtain ⟨hc1, hf1⟩ := bcell hb1
  have z11 : w.heap.size + 1 < w1.heap.size := by omega
  have hp1 := below_up (B := w.heap.size) (w := w) (by go_grown) hb1 (by first | omega | (simp; done) | (simp; omega))
  go_wp2_with fail
  refine bodyPost_ret (v := .tuple #[(.agg #[.int .i64 Zw.zero.a, .int .i64 Zw.zero.b, .int .i64 Zw.zero.c, .int .i64 Zw.zero.d]), .bool false]) (by simp [results, Tryz.results142, go_sem, hc1, Zw.zero]) rfl ⟨rfl, ?_⟩
  go_grown
theorem idiv_any (x : Zw) (w : World) :
    Calls Tryz.prog 142 #[(.agg #[.int .i64 x.a, .int .i64 x.b, .int .i64 x.c, .int .i64 x.d])] w fun e w' => e = .returned (.tuple #[(.agg #[.int .i64 (divV x).a, .int .i64 (divV x).b, .int .i64 (divV x).c, .int .i64 (divV x).d]), .bool (divB x)]) ∧ Below w.heap.size w w' := by
  by_cases h : x.ok
  · have hn : ∀ w, (binOp .neq 164 (.agg #[.int .i64 x.root.thalf.root.a, .int .i64 x.root.thalf.root.b, .int .i64 x.root.thalf.root.c, .int .i64 x.root.thalf.root.d]) (.agg #[.int .i64 x.a, .int .i64 x.b, .int .i64 x.c, .int .i64 x.d])).run Tryz.prog w = .ok (.bool (!decide (x.root.even))) w := by
      intro w
      rw [eq4]
      congr 3
      rw [Bool.eq_iff_iff]
      simp only [Bool.and_eq_true, decide_eq_true_eq]
      rw [← thalf_root]
      exact ⟨fun ⟨⟨⟨h1, h2⟩, h3⟩, h4⟩ => Zw.ext4 h1 h2 h3 h4, fun e => by rw [e]; exact ⟨⟨⟨rfl, rfl⟩, rfl⟩, rfl⟩⟩
    have hr : x.root.i64 := by
      obtain ⟨a, b, c, d⟩ := x
      simp only [Zw.root, Zw.ok, Zw.i64, Near, I64] at *
      omega
    by_cases k : x.root.even
    · rw [decide_eq_true k] at hn
      have := idiv_yes x x.root x.root.thalf x.root.thalf.root w (fun w => ivalid_any x true w (okB_true.2 h)) (fun w => tsq x w h) (fun w => halv x.root w hr) (fun w => tsq x.root.thalf w (thalf_ok h)) hn
      rw [show divV x = x.root.thalf by rw [thalf_half k]; simp [divV, h, k], show divB x = true by simp [divB, h, k]]
      exact this
    · rw [decide_eq_false k] at hn
      have := idiv_no x x.root x.root.thalf x.root.thalf.root w (fun w => ivalid_any x true w (okB_true.2 h)) (fun w => tsq x w h) (fun w => halv x.root w hr) (fun w => tsq x.root.thalf w (thalf_ok h)) hn
      rw [show divV x = Zw.zero by simp [divV, k], show divB x = false by simp [divB, k]]
      exact this
  · rw [show divV x = Zw.zero by simp [divV, h], show divB x = false by simp [divB, h]]
    exact idiv_bad x w h
end Go.Proofs.YtckfklpgnneodaaGreat
