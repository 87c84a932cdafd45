/- BaseB10: several of our texts in one: ApKb ApKs ApKt ApKu. -/
import Derived.Test.YtmpafidkpangeaaGreatBaseB07
import Derived.Laws.EntriesVeiled
import Derived.Test.YtmpafidkpangeaaGreatBaseB24
namespace Go.Proofs.YtmpafidkpangeaaGreat
open Go.RowKit
def G1u (w : World) (b : Nat) (g : Gt) (p : Nat) (u : Int) (w' : World) : Prop := w'.cell? ⟨b, 0, none⟩ = some (.int .i64 g.k) ∧ w'.cell? ⟨b, 1, none⟩ = some (.int .i64 g.a) ∧ w'.cell? ⟨b, 2, none⟩ = some (.int .i64 g.b) ∧ w'.cell? ⟨b, 3, none⟩ = some (.int .i64 g.c) ∧ w'.cell? ⟨p, 0, none⟩ = some (.int .i64 u) ∧ b < w'.heap.size ∧ p < w'.heap.size ∧ Below w.heap.size w w'
theorem G1u.drew {w w' : World} {b p : Nat} {g : Gt} {u : Int} (h : G1u w b g p u w') : G1u w b g p u w'.drew := let ⟨b0, b1, b2, b3, b4, z, y, l⟩ := h; ⟨b0, b1, b2, b3, b4, z, y, l.drew⟩
theorem G1u.below {w w1 w2 : World} {b p : Nat} {g : Gt} {u : Int} (h : G1u w b g p u w1) (hb : Below w1.heap.size w1 w2) : G1u w b g p u w2 :=
  let ⟨b0, b1, b2, b3, b4, z, y, l⟩ := h; ⟨cell_below b0 hb z, cell_below b1 hb z, cell_below b2 hb z, cell_below b3 hb z, cell_below b4 hb y, Nat.lt_of_lt_of_le z hb.size, Nat.lt_of_lt_of_le y hb.size, below_up l hb l.size⟩
attribute [local irreducible] World.cell?
set_option maxRecDepth 100000 in
set_option maxHeartbeats 3200000 in
theorem iturn1 (k : Int) (A B C i : Nat) (u : Int) (p : Nat) (Q : Dw) (w : World) (hA : A < 4) (_ : B < 4) (_ : C < 4) (hi : i < 16) (hp : w.heap[p]? = some (.cells #[.int .i64 u] 3 (0, 0))) (hQ : dPh (IntKind.i64.wrap (u * bI (bitN i A))) = Q) :
    Calls Tryz.prog 162 #[(.agg #[.int .i64 ((Gt.mk k A B C)).k, .int .i64 ((Gt.mk k A B C)).a, .int .i64 ((Gt.mk k A B C)).b, .int .i64 ((Gt.mk k A B C)).c]), .int .i64 i, .pointer (some ⟨p, 0, none⟩)] w fun e w' => ∃ v, e = .returned v ∧ contE.Sl w' w.heap.size v [(i, Q)] ∧ Below w.heap.size w w' := by
  have HX := Lib.hid (heap_alloc_new w (.cells #[.int .i64 ((Gt.mk k A B C)).k, .int .i64 ((Gt.mk k A B C)).a, .int .i64 ((Gt.mk k A B C)).b, .int .i64 ((Gt.mk k A B C)).c] 35))
  obtain ⟨c0, c1, c2, c3⟩ := blk_cells HX.out
  have c4 := cell_at (alloc_blk (.cells #[.int .i64 ((Gt.mk k A B C)).k, .int .i64 ((Gt.mk k A B C)).a, .int .i64 ((Gt.mk k A B C)).b, .int .i64 ((Gt.mk k A B C)).c] 35) hp) 0 _ rfl
  have hpl := lt_of_block (alloc_blk (.cells #[.int .i64 ((Gt.mk k A B C)).k, .int .i64 ((Gt.mk k A B C)).a, .int .i64 ((Gt.mk k A B C)).b, .int .i64 ((Gt.mk k A B C)).c] 35) hp)
  have hS : G1u w w.heap.size (Gt.mk k A B C) p u (w.alloc (.cells #[.int .i64 ((Gt.mk k A B C)).k, .int .i64 ((Gt.mk k A B C)).a, .int .i64 ((Gt.mk k A B C)).b, .int .i64 ((Gt.mk k A B C)).c] 35)) := ⟨c0, c1, c2, c3, c4, by simp, hpl, by go_grown⟩
  have Hb0 := Lib.hid (show Below w.heap.size w (w.alloc (.cells #[.int .i64 ((Gt.mk k A B C)).k, .int .i64 ((Gt.mk k A B C)).a, .int .i64 ((Gt.mk k A B C)).b, .int .i64 ((Gt.mk k A B C)).c] 35)) by go_grown)
  have Hba := Lib.hid (fun W => ibit (i := i) (q := A) hi hA rfl W)
  clear hp
  generalize bI (bitN i A) = ba at *
  go_enter Tryz.func162, Tryz.ntmps162
  go_upto_region 1 with fail
  go_region_held3 (fun w' => w'.cell? ⟨w.heap.size, 0, none⟩ = some (.int .i64 k) ∧ w'.cell? ⟨w.heap.size, 1, none⟩ = some (.int .i64 (A : Int)) ∧ w'.cell? ⟨w.heap.size, 2, none⟩ = some (.int .i64 (B : Int)) ∧ w'.cell? ⟨w.heap.size, 3, none⟩ = some (.int .i64 (C : Int)) ∧ w'.cell? ⟨p, 0, none⟩ = some (.int .i64 u) ∧ w.heap.size < w'.heap.size ∧ p < w'.heap.size ∧ Below w.heap.size w w') (first | (show G1u w w.heap.size (Gt.mk k A B C) p u _; (with_reducible exact hS.drew)) | (show G1u w w.heap.size (Gt.mk k A B C) p u _; (with_reducible refine G1u.below ?_ hbR); first | assumption | exact ⟨by assumption, by assumption, by assumption, by assumption, by assumption, by assumption, by assumption, by assumption⟩))
    (first | (go_at_call 161; refine (Hba.out _).mono ?_; rintro e wR ⟨rfl, rfl⟩) | (go_at_call 160; refine (imove (J := i) (P := Q) (by first | assumption | rfl) (by first | assumption | rfl) _).mono ?_; rintro e wQ ⟨v, rfl, hd, hbM⟩; have HD := Lib.hid hd; have hbR := hbM))
  all_goals
    have Hd := Lib.hid (HD.out.mono (C := w.heap.size) (by simp))
    have Hb1 := Lib.hid (below_nx Hb0.out.drew hbM)
  all_goals go_wp2_with fail
  all_goals go_ret
  all_goals exact ⟨_, rfl, Hd.out, Hb1.out⟩
set_option maxRecDepth 100000 in
set_option maxHeartbeats 3200000 in
theorem iexch (k : Int) (A B C i : Nat) (w : World) (hA : A < 4) (hB : B < 4) (_ : C < 4) (hi : i < 16) :
    Calls Tryz.prog 120 #[(.agg #[.int .i64 ((Gt.mk k A B C)).k, .int .i64 ((Gt.mk k A B C)).a, .int .i64 ((Gt.mk k A B C)).b, .int .i64 ((Gt.mk k A B C)).c]), .int .i64 i] w fun e w' => ∃ v, e = .returned v ∧ contE.Sl w' w.heap.size v [(if bitN i A != bitN i B then flipN (flipN i A) B else i, dPh 0)] ∧ Below w.heap.size w w' := by
  have HX := Lib.hid (heap_alloc_new w (.cells #[.int .i64 ((Gt.mk k A B C)).k, .int .i64 ((Gt.mk k A B C)).a, .int .i64 ((Gt.mk k A B C)).b, .int .i64 ((Gt.mk k A B C)).c] 35))
  obtain ⟨c0, c1, c2, c3⟩ := blk_cells HX.out
  have hS : G1 w w.heap.size (Gt.mk k A B C) (w.alloc (.cells #[.int .i64 ((Gt.mk k A B C)).k, .int .i64 ((Gt.mk k A B C)).a, .int .i64 ((Gt.mk k A B C)).b, .int .i64 ((Gt.mk k A B C)).c] 35)) := ⟨c0, c1, c2, c3, by simp, by go_grown⟩
  have Hb0 := Lib.hid (show Below w.heap.size w (w.alloc (.cells #[.int .i64 ((Gt.mk k A B C)).k, .int .i64 ((Gt.mk k A B C)).a, .int .i64 ((Gt.mk k A B C)).b, .int .i64 ((Gt.mk k A B C)).c] 35)) by go_grown)
  have Hba := Lib.hid (fun W => ibit (i := i) (q := A) hi hA rfl W)
  have Hbb := Lib.hid (fun W => ibit (i := i) (q := B) hi hB rfl W)
  have hx := exW ⟨i, hi⟩ (bitN i A) (bitN i B) ⟨A, hA⟩ ⟨B, hB⟩
  generalize (if (bitN i A != bitN i B) = true then flipN (flipN i A) B else i) = j at *
  obtain ⟨P, hP⟩ : ∃ P, dPh 0 = P := ⟨_, rfl⟩
  rw [hP]
  generalize bI (bitN i A) = ba at *
  generalize bI (bitN i B) = bb at *
  go_enter Tryz.func120, Tryz.ntmps120
  go_upto_region 1 with fail
  go_region_held3 (fun w' => w'.cell? ⟨w.heap.size, 0, none⟩ = some (.int .i64 k) ∧ w'.cell? ⟨w.heap.size, 1, none⟩ = some (.int .i64 (A : Int)) ∧ w'.cell? ⟨w.heap.size, 2, none⟩ = some (.int .i64 (B : Int)) ∧ w'.cell? ⟨w.heap.size, 3, none⟩ = some (.int .i64 (C : Int)) ∧ w.heap.size < w'.heap.size ∧ Below w.heap.size w w') (first | (show G1 w w.heap.size (Gt.mk k A B C) _; (with_reducible exact hS.drew)) | (show G1 w w.heap.size (Gt.mk k A B C) _; (with_reducible refine G1.below ?_ hbR); first | assumption | exact ⟨by assumption, by assumption, by assumption, by assumption, by assumption, by assumption⟩))
    (first | (go_at_call 161; refine (Hba.out _).mono ?_; rintro e wR ⟨rfl, rfl⟩) | (go_at_call 161; refine (Hbb.out _).mono ?_; rintro e wR ⟨rfl, rfl⟩))
  have hS := hS.drew
  go_upto_region 2 with fail
  go_region_held3 (fun w' => w'.cell? ⟨w.heap.size, 0, none⟩ = some (.int .i64 k) ∧ w'.cell? ⟨w.heap.size, 1, none⟩ = some (.int .i64 (A : Int)) ∧ w'.cell? ⟨w.heap.size, 2, none⟩ = some (.int .i64 (B : Int)) ∧ w'.cell? ⟨w.heap.size, 3, none⟩ = some (.int .i64 (C : Int)) ∧ w.heap.size < w'.heap.size ∧ Below w.heap.size w w') (first | (show G1 w w.heap.size (Gt.mk k A B C) _; (with_reducible exact hS.drew)) | (show G1 w w.heap.size (Gt.mk k A B C) _; (with_reducible refine G1.below ?_ hbR); first | assumption | exact ⟨by assumption, by assumption, by assumption, by assumption, by assumption, by assumption⟩))
    (first | (go_at_call 160; refine (imove (J := j) (P := P) (by first | assumption | rfl) (by first | assumption | rfl) _).mono ?_; rintro e wQ ⟨v, rfl, hd, hbM⟩; have HD := Lib.hid hd; have hbR := hbM))
  all_goals
    have Hd := Lib.hid (HD.out.mono (C := w.heap.size) (by simp))
    have Hb1 := Lib.hid (below_nx Hb0.out.drew.drew hbM)
  all_goals go_wp2_with fail
  all_goals go_ret
  all_goals exact ⟨_, rfl, Hd.out, Hb1.out⟩
end Go.Proofs.YtmpafidkpangeaaGreat
namespace Go.Proofs.YtmpafidkpangeaaGreat
open Go.RowKit
theorem or_all : ∀ i : Fin 16, ∀ q : Fin 4, bits .andNot .i64 ((i.val : Nat) : Int) (wrap64 (2 ^ q.val)) = ((lowN i.val q.val : Nat) : Int) ∧ bits .or .i64 ((i.val : Nat) : Int) (wrap64 (2 ^ q.val)) = ((flipN (lowN i.val q.val) q.val : Nat) : Int) := by decide +kernel
theorem drew_blk {w : World} {g : Nat} {o : Obj} (h : w.heap[g]? = some o) : w.drew.heap[g]? = some o := h
theorem blk_cells6 {w : World} {g : Nat} {u0 u1 u2 u3 u4 u5 : Value} {T : TypeId} (h : w.heap[g]? = some (.cells #[u0, u1, u2, u3, u4, u5] T (0, 0))) :
    w.cell? ⟨g, 0, none⟩ = some u0 ∧ w.cell? ⟨g, 1, none⟩ = some u1 ∧ w.cell? ⟨g, 2, none⟩ = some u2 ∧ w.cell? ⟨g, 3, none⟩ = some u3 ∧ w.cell? ⟨g, 4, none⟩ = some u4 ∧ w.cell? ⟨g, 5, none⟩ = some u5 :=
  ⟨cell_at h 0 _ rfl, cell_at h 1 _ rfl, cell_at h 2 _ rfl, cell_at h 3 _ rfl, cell_at h 4 _ rfl, cell_at h 5 _ rfl⟩
attribute [local irreducible] World.cell?
set_option maxRecDepth 100000 in
set_option maxHeartbeats 6400000 in
theorem ispread (k : Int) (A B C i : Nat) (w : World) (hA : A < 4) (hi : i < 16) :
    Calls Tryz.prog 117 #[(.agg #[.int .i64 ((Gt.mk k A B C)).k, .int .i64 ((Gt.mk k A B C)).a, .int .i64 ((Gt.mk k A B C)).b, .int .i64 ((Gt.mk k A B C)).c]), .int .i64 i] w fun e w' => ∃ v, e = .returned v ∧ contE.Sl w' w.heap.size v [(lowN i A, isV 1), (flipN (lowN i A) A, if bitN i A then dNegV (isV 1) else isV 1)] ∧ Below w.heap.size w w' := by
  have HX := Lib.hid (heap_alloc_new w (.cells #[.int .i64 ((Gt.mk k A B C)).k, .int .i64 ((Gt.mk k A B C)).a, .int .i64 ((Gt.mk k A B C)).b, .int .i64 ((Gt.mk k A B C)).c] 35))
  obtain ⟨c0, c1, c2, c3⟩ := blk_cells HX.out
  have Hb0 := Lib.hid (show Below w.heap.size w (w.alloc (.cells #[.int .i64 ((Gt.mk k A B C)).k, .int .i64 ((Gt.mk k A B C)).a, .int .i64 ((Gt.mk k A B C)).b, .int .i64 ((Gt.mk k A B C)).c] 35)) by go_grown)
  have H := Lib.hid (fun W => iinv 1 W (by decide) (by decide))
  have HN := Lib.hid (fun W => inegD_any (isV 1) W (by decide) (by decide))
  have HB := Lib.hid (fun W => ibit (i := i) (q := A) hi hA rfl W)
  obtain ⟨f1, f2⟩ := or_all ⟨i, hi⟩ ⟨A, hA⟩
  simp only [] at f1 f2
  obtain ⟨R, hR⟩ : ∃ R, R = (if bitN i A = true then dNegV (isV 1) else isV 1) := ⟨_, rfl⟩
  rw [← hR]
  have HQ := Lib.hid hR
  clear hR
  generalize isV 1 = h at *
  generalize dNegV h = N at *
  go_enter Tryz.func117, Tryz.ntmps117
  go_wp2_with fail
  refine (H.out _).mono ?_
  rintro e w1 ⟨rfl, hb1⟩
  have hr1 := below_blk hb1 (lt_of_block HX.out) HX.out
  have Hb1 := Lib.hid (below_nx Hb0.out hb1)
  clear c0 c1 c2 c3
  have hp1 := heap_alloc_new w1 (.cells #[.int .i64 h.n.a, .int .i64 h.n.b, .int .i64 h.n.c, .int .i64 h.n.d, .int .i64 h.e] 84)
  have hr1 := alloc_blk (.cells #[.int .i64 h.n.a, .int .i64 h.n.b, .int .i64 h.n.c, .int .i64 h.n.d, .int .i64 h.e] 84) hr1
  obtain ⟨c0, c1, c2, c3⟩ := blk_cells hr1
  obtain ⟨d0, d1, d2, d3, d4⟩ := blk_cells5 hp1
  have HR := Lib.hid hr1
  have HP := Lib.hid hp1
  have zr := lt_of_block hr1
  have zp := lt_of_block hp1
  have zr1 : w.heap.size < w1.heap.size := by have h1 := Hb1.out.size; have h2 := hb1.size; simp at h2; omega
  clear hb1 hr1 hp1
  go_upto_region 2 with fail
  go_region
  have HR2 := Lib.hid (drew_blk (alloc_blk (.cells #[.int .i64 ((lowN i A : Nat) : Int), .int .i64 h.n.a, .int .i64 h.n.b, .int .i64 h.n.c, .int .i64 h.n.d, .int .i64 h.e] 87) HR.out))
  have HP2 := Lib.hid (drew_blk (alloc_blk (.cells #[.int .i64 ((lowN i A : Nat) : Int), .int .i64 h.n.a, .int .i64 h.n.b, .int .i64 h.n.c, .int .i64 h.n.d, .int .i64 h.e] 87) HP.out))
  have hc2 := drew_blk (heap_alloc_new (w1.alloc (.cells #[.int .i64 h.n.a, .int .i64 h.n.b, .int .i64 h.n.c, .int .i64 h.n.d, .int .i64 h.e] 84)) (.cells #[.int .i64 ((lowN i A : Nat) : Int), .int .i64 h.n.a, .int .i64 h.n.b, .int .i64 h.n.c, .int .i64 h.n.d, .int .i64 h.e] 87))
  have Hb2 := Lib.hid (show Below w.heap.size w (((w1.alloc (.cells #[.int .i64 h.n.a, .int .i64 h.n.b, .int .i64 h.n.c, .int .i64 h.n.d, .int .i64 h.e] 84)).alloc (.cells #[.int .i64 ((lowN i A : Nat) : Int), .int .i64 h.n.a, .int .i64 h.n.b, .int .i64 h.n.c, .int .i64 h.n.d, .int .i64 h.e] 87)).drew) by have := Hb1.out; go_grown)
  rw [show (w1.alloc (.cells #[.int .i64 h.n.a, .int .i64 h.n.b, .int .i64 h.n.c, .int .i64 h.n.d, .int .i64 h.e] 84)).heap.size = w1.heap.size + 1 by simp] at hc2
  have HC2 := Lib.hid hc2
  have hs2 : (((w1.alloc (.cells #[.int .i64 h.n.a, .int .i64 h.n.b, .int .i64 h.n.c, .int .i64 h.n.d, .int .i64 h.e] 84)).alloc (.cells #[.int .i64 ((lowN i A : Nat) : Int), .int .i64 h.n.a, .int .i64 h.n.b, .int .i64 h.n.c, .int .i64 h.n.d, .int .i64 h.e] 87)).drew).heap.size = w1.heap.size + 2 := by simp [World.drew]
  clear c0 c1 c2 c3 d0 d1 d2 d3 d4 zr zp hc2
  have Hs2 := Lib.hid hs2
  clear hs2
  generalize (((w1.alloc (.cells #[.int .i64 h.n.a, .int .i64 h.n.b, .int .i64 h.n.c, .int .i64 h.n.d, .int .i64 h.e] 84)).alloc (.cells #[.int .i64 ((lowN i A : Nat) : Int), .int .i64 h.n.a, .int .i64 h.n.b, .int .i64 h.n.c, .int .i64 h.n.d, .int .i64 h.e] 87)).drew) = w2 at *
  obtain ⟨c0, c1, c2, c3⟩ := blk_cells HR2.out
  obtain ⟨d0, d1, d2, d3, d4⟩ := blk_cells5 HP2.out
  have zr := lt_of_block HR2.out
  have zp := lt_of_block HP2.out
  go_upto_region 3 with fail
  go_region
  have HR3 := Lib.hid (drew_blk (alloc_blk (.cells #[.int .i64 ((flipN (lowN i A) A : Nat) : Int), .int .i64 h.n.a, .int .i64 h.n.b, .int .i64 h.n.c, .int .i64 h.n.d, .int .i64 h.e] 87) HR2.out))
  have HP3 := Lib.hid (drew_blk (alloc_blk (.cells #[.int .i64 ((flipN (lowN i A) A : Nat) : Int), .int .i64 h.n.a, .int .i64 h.n.b, .int .i64 h.n.c, .int .i64 h.n.d, .int .i64 h.e] 87) HP2.out))
  have HC3 := Lib.hid (drew_blk (alloc_blk (.cells #[.int .i64 ((flipN (lowN i A) A : Nat) : Int), .int .i64 h.n.a, .int .i64 h.n.b, .int .i64 h.n.c, .int .i64 h.n.d, .int .i64 h.e] 87) HC2.out))
  have HS3 := Lib.hid (drew_blk (heap_alloc_new w2 (.cells #[.int .i64 ((flipN (lowN i A) A : Nat) : Int), .int .i64 h.n.a, .int .i64 h.n.b, .int .i64 h.n.c, .int .i64 h.n.d, .int .i64 h.e] 87)))
  have Hb3 := Lib.hid (show Below w.heap.size w (w2.alloc (.cells #[.int .i64 ((flipN (lowN i A) A : Nat) : Int), .int .i64 h.n.a, .int .i64 h.n.b, .int .i64 h.n.c, .int .i64 h.n.d, .int .i64 h.e] 87)).drew by have := Hb2.out; go_grown)
  have hs3 : (w2.alloc (.cells #[.int .i64 ((flipN (lowN i A) A : Nat) : Int), .int .i64 h.n.a, .int .i64 h.n.b, .int .i64 h.n.c, .int .i64 h.n.d, .int .i64 h.e] 87)).drew.heap.size = w2.heap.size + 1 := by simp [World.drew]
  rw [Hs2.out] at HS3 hs3 ⊢
  have Hs3 := Lib.hid hs3
  clear hs3
  clear c0 c1 c2 c3 d0 d1 d2 d3 d4 zr zp
  generalize (w2.alloc (.cells #[.int .i64 ((flipN (lowN i A) A : Nat) : Int), .int .i64 h.n.a, .int .i64 h.n.b, .int .i64 h.n.c, .int .i64 h.n.d, .int .i64 h.e] 87)).drew = w3 at *
  obtain ⟨c0, c1, c2, c3⟩ := blk_cells HR3.out
  have zr := lt_of_block HR3.out
  generalize bitN i A = bb at *
  cases bb with
  | false =>
    obtain rfl : R = h := HQ.out
    have HB0 := Lib.hid (show ∀ W, Calls Tryz.prog 161 #[.int .i64 (i : Int), .int .i64 (A : Int)] W fun e w' => e = .returned (.int .i64 0) ∧ W = w' from HB.out)
    have Hn := Lib.hid (new_cont2 w3 (lowN i A) (flipN (lowN i A) A) R R)
    obtain ⟨d0, d1, d2, d3, d4, d5⟩ := blk_cells6 HC3.out
    obtain ⟨e0, e1, e2, e3, e4, e5⟩ := blk_cells6 HS3.out
    clear HB
    go_wp2_with fail
    refine (HB0.out _).mono ?_
    rintro e wx ⟨rfl, rfl⟩
    go_wp2_with fail
    go_ret
    exact ⟨_, rfl, Hn.out.mono Hb3.out.size, by have := Hb3.out; have := Hb3.out.size; go_grown⟩
  | true =>
    obtain rfl : R = N := HQ.out
    have HB0 := Lib.hid (show ∀ W, Calls Tryz.prog 161 #[.int .i64 (i : Int), .int .i64 (A : Int)] W fun e w' => e = .returned (.int .i64 1) ∧ W = w' from HB.out)
    obtain ⟨d0, d1, d2, d3, d4⟩ := blk_cells5 HP3.out
    clear HB
    go_wp2_with fail
    refine (HB0.out _).mono ?_
    rintro e wx ⟨rfl, rfl⟩
    go_wp2_with fail
    refine (HN.out _).mono ?_
    rintro e w4 ⟨rfl, hb4⟩
    have hc4 := below_blk hb4 (lt_of_block HC3.out) HC3.out
    have hs4 := below_blk hb4 (lt_of_block HS3.out) HS3.out
    have Hb4 := Lib.hid (below_nx Hb3.out hb4)
    have zc := lt_of_block hc4
    have zs := lt_of_block hs4
    clear c0 c1 c2 c3 d0 d1 d2 d3 d4 zr
    obtain ⟨d0, d1, d2, d3, d4, d5⟩ := blk_cells6 hc4
    obtain ⟨e0, e1, e2, e3, e4, e5⟩ := blk_cells6 hs4
    have f4 := fun o => free_at hs4 o
    have h5 := new_cont2 (((((w4.setCell ⟨w1.heap.size + 2, 1, none⟩ (.int .i64 R.n.a)).setCell ⟨w1.heap.size + 2, 2, none⟩ (.int .i64 R.n.b)).setCell ⟨w1.heap.size + 2, 3, none⟩ (.int .i64 R.n.c)).setCell ⟨w1.heap.size + 2, 4, none⟩ (.int .i64 R.n.d)).setCell ⟨w1.heap.size + 2, 5, none⟩ (.int .i64 R.e)) (lowN i A) (flipN (lowN i A) A) h R
    rw [show (((((w4.setCell ⟨w1.heap.size + 2, 1, none⟩ (.int .i64 R.n.a)).setCell ⟨w1.heap.size + 2, 2, none⟩ (.int .i64 R.n.b)).setCell ⟨w1.heap.size + 2, 3, none⟩ (.int .i64 R.n.c)).setCell ⟨w1.heap.size + 2, 4, none⟩ (.int .i64 R.n.d)).setCell ⟨w1.heap.size + 2, 5, none⟩ (.int .i64 R.e)).heap.size = w4.heap.size by simp [World.setCell]] at h5
    have H5 := Lib.hid h5
    clear hb4 hc4 hs4 h5
    go_wp2_with fail
    go_ret
    exact ⟨_, rfl, H5.out.mono Hb4.out.size, by have := Hb4.out; have := Hb4.out.size; go_grown⟩
end Go.Proofs.YtmpafidkpangeaaGreat
namespace Go.Proofs.YtmpafidkpangeaaGreat
open Go.RowKit
def actA (p3 p5 p6 p7 p8 : Nat) : Array Value := #[.nilFunc, .func (.func 114) #[] #[], .func (.func 115) #[] #[], .func (.func 162) #[] #[.pointer (some ⟨p3, 0, none⟩)], .func (.func 117) #[] #[], .func (.func 162) #[] #[.pointer (some ⟨p5, 0, none⟩)], .func (.func 162) #[] #[.pointer (some ⟨p6, 0, none⟩)], .func (.func 162) #[] #[.pointer (some ⟨p7, 0, none⟩)], .func (.func 162) #[] #[.pointer (some ⟨p8, 0, none⟩)], .func (.func 118) #[] #[], .func (.func 119) #[] #[], .func (.func 120) #[] #[], .func (.func 121) #[] #[]]
def OneInt (w : World) (p : Nat) (u : Int) : Prop := w.heap[p]? = some (.cells #[.int .i64 u] 3 (0, 0))
theorem OneInt.set {w : World} {p b k : Nat} {u : Int} {v : Value} (h : OneInt w p u) (hn : b < p) : OneInt (w.setCell ⟨b, k, none⟩ v) p u := by
  show (w.heap.modify b _)[p]? = _
  rw [Array.getElem?_modify, if_neg (by omega)]
  exact h
theorem OneInt.below {w w' : World} {p : Nat} {u : Int} (h : OneInt w p u) (hb : Below w.heap.size w w') : OneInt w' p u := below_blk hb (lt_of_block h) h
attribute [local irreducible] World.cell?
set_option maxRecDepth 100000 in
set_option maxHeartbeats 800000 in
theorem iturnBy (u : Int) (w : World) : Calls Tryz.prog 116 #[.int .i64 u] w fun e w' => e = .returned (.func (.func 162) #[] #[.pointer (some ⟨w.heap.size, 0, none⟩)]) ∧ w' = w.alloc (.cells #[.int .i64 u] 3) := by
  go_enter Tryz.func116, Tryz.ntmps116
  go_wp2_with fail
  go_ret
  exact ⟨rfl, rfl⟩
set_option maxRecDepth 100000 in
set_option maxHeartbeats 1600000 in
theorem itable (w : World) : Calls Tryz.prog 58 #[] w fun e w' => (∃ p3 p5 p6 p7 p8 : Nat, e = .returned (.agg (actA p3 p5 p6 p7 p8)) ∧ OneInt w' p3 4 ∧ OneInt w' p5 2 ∧ OneInt w' p6 (-2) ∧ OneInt w' p7 1 ∧ OneInt w' p8 (-1)) ∧ Below w.heap.size w w' := by
  have H := Lib.hid (fun u W => iturnBy u W)
  have hA : ((((((w.alloc (.cells #[.nilFunc, .nilFunc, .nilFunc, .nilFunc, .nilFunc, .nilFunc, .nilFunc, .nilFunc, .nilFunc, .nilFunc, .nilFunc, .nilFunc, .nilFunc] 79)).alloc (.cells #[.int .i64 4] 3)).alloc (.cells #[.int .i64 2] 3)).alloc (.cells #[.int .i64 (-2)] 3)).alloc (.cells #[.int .i64 1] 3)).alloc (.cells #[.int .i64 (-1)] 3)).heap[w.heap.size]? = some (.cells #[.nilFunc, .nilFunc, .nilFunc, .nilFunc, .nilFunc, .nilFunc, .nilFunc, .nilFunc, .nilFunc, .nilFunc, .nilFunc, .nilFunc, .nilFunc] 79 (0, 0)) := alloc_blk _ (alloc_blk _ (alloc_blk _ (alloc_blk _ (alloc_blk _ (heap_alloc_new w (.cells #[.nilFunc, .nilFunc, .nilFunc, .nilFunc, .nilFunc, .nilFunc, .nilFunc, .nilFunc, .nilFunc, .nilFunc, .nilFunc, .nilFunc, .nilFunc] 79))))))
  have hb : Below w.heap.size w ((((((w.alloc (.cells #[.nilFunc, .nilFunc, .nilFunc, .nilFunc, .nilFunc, .nilFunc, .nilFunc, .nilFunc, .nilFunc, .nilFunc, .nilFunc, .nilFunc, .nilFunc] 79)).alloc (.cells #[.int .i64 4] 3)).alloc (.cells #[.int .i64 2] 3)).alloc (.cells #[.int .i64 (-2)] 3)).alloc (.cells #[.int .i64 1] 3)).alloc (.cells #[.int .i64 (-1)] 3)) := by go_grown
  have hp3 : OneInt ((((((w.alloc (.cells #[.nilFunc, .nilFunc, .nilFunc, .nilFunc, .nilFunc, .nilFunc, .nilFunc, .nilFunc, .nilFunc, .nilFunc, .nilFunc, .nilFunc, .nilFunc] 79)).alloc (.cells #[.int .i64 4] 3)).alloc (.cells #[.int .i64 2] 3)).alloc (.cells #[.int .i64 (-2)] 3)).alloc (.cells #[.int .i64 1] 3)).alloc (.cells #[.int .i64 (-1)] 3)) (w.heap.size + 1) 4 := (alloc_blk _ (alloc_blk _ (alloc_blk _ (alloc_blk _ (show ((w.alloc (.cells #[.nilFunc, .nilFunc, .nilFunc, .nilFunc, .nilFunc, .nilFunc, .nilFunc, .nilFunc, .nilFunc, .nilFunc, .nilFunc, .nilFunc, .nilFunc] 79)).alloc (.cells #[.int .i64 4] 3)).heap[w.heap.size + 1]? = _ from by simpa using heap_alloc_new (w.alloc (.cells #[.nilFunc, .nilFunc, .nilFunc, .nilFunc, .nilFunc, .nilFunc, .nilFunc, .nilFunc, .nilFunc, .nilFunc, .nilFunc, .nilFunc, .nilFunc] 79)) (.cells #[.int .i64 4] 3))))))
  have hp5 : OneInt ((((((w.alloc (.cells #[.nilFunc, .nilFunc, .nilFunc, .nilFunc, .nilFunc, .nilFunc, .nilFunc, .nilFunc, .nilFunc, .nilFunc, .nilFunc, .nilFunc, .nilFunc] 79)).alloc (.cells #[.int .i64 4] 3)).alloc (.cells #[.int .i64 2] 3)).alloc (.cells #[.int .i64 (-2)] 3)).alloc (.cells #[.int .i64 1] 3)).alloc (.cells #[.int .i64 (-1)] 3)) (w.heap.size + 1 + 1) 2 := (alloc_blk _ (alloc_blk _ (alloc_blk _ (show (((w.alloc (.cells #[.nilFunc, .nilFunc, .nilFunc, .nilFunc, .nilFunc, .nilFunc, .nilFunc, .nilFunc, .nilFunc, .nilFunc, .nilFunc, .nilFunc, .nilFunc] 79)).alloc (.cells #[.int .i64 4] 3)).alloc (.cells #[.int .i64 2] 3)).heap[w.heap.size + 1 + 1]? = _ from by simpa using heap_alloc_new ((w.alloc (.cells #[.nilFunc, .nilFunc, .nilFunc, .nilFunc, .nilFunc, .nilFunc, .nilFunc, .nilFunc, .nilFunc, .nilFunc, .nilFunc, .nilFunc, .nilFunc] 79)).alloc (.cells #[.int .i64 4] 3)) (.cells #[.int .i64 2] 3)))))
  have hp6 : OneInt ((((((w.alloc (.cells #[.nilFunc, .nilFunc, .nilFunc, .nilFunc, .nilFunc, .nilFunc, .nilFunc, .nilFunc, .nilFunc, .nilFunc, .nilFunc, .nilFunc, .nilFunc] 79)).alloc (.cells #[.int .i64 4] 3)).alloc (.cells #[.int .i64 2] 3)).alloc (.cells #[.int .i64 (-2)] 3)).alloc (.cells #[.int .i64 1] 3)).alloc (.cells #[.int .i64 (-1)] 3)) (w.heap.size + 1 + 1 + 1) (-2) := (alloc_blk _ (alloc_blk _ (show ((((w.alloc (.cells #[.nilFunc, .nilFunc, .nilFunc, .nilFunc, .nilFunc, .nilFunc, .nilFunc, .nilFunc, .nilFunc, .nilFunc, .nilFunc, .nilFunc, .nilFunc] 79)).alloc (.cells #[.int .i64 4] 3)).alloc (.cells #[.int .i64 2] 3)).alloc (.cells #[.int .i64 (-2)] 3)).heap[w.heap.size + 1 + 1 + 1]? = _ from by simpa using heap_alloc_new (((w.alloc (.cells #[.nilFunc, .nilFunc, .nilFunc, .nilFunc, .nilFunc, .nilFunc, .nilFunc, .nilFunc, .nilFunc, .nilFunc, .nilFunc, .nilFunc, .nilFunc] 79)).alloc (.cells #[.int .i64 4] 3)).alloc (.cells #[.int .i64 2] 3)) (.cells #[.int .i64 (-2)] 3))))
  have hp7 : OneInt ((((((w.alloc (.cells #[.nilFunc, .nilFunc, .nilFunc, .nilFunc, .nilFunc, .nilFunc, .nilFunc, .nilFunc, .nilFunc, .nilFunc, .nilFunc, .nilFunc, .nilFunc] 79)).alloc (.cells #[.int .i64 4] 3)).alloc (.cells #[.int .i64 2] 3)).alloc (.cells #[.int .i64 (-2)] 3)).alloc (.cells #[.int .i64 1] 3)).alloc (.cells #[.int .i64 (-1)] 3)) (w.heap.size + 1 + 1 + 1 + 1) 1 := (alloc_blk _ (show (((((w.alloc (.cells #[.nilFunc, .nilFunc, .nilFunc, .nilFunc, .nilFunc, .nilFunc, .nilFunc, .nilFunc, .nilFunc, .nilFunc, .nilFunc, .nilFunc, .nilFunc] 79)).alloc (.cells #[.int .i64 4] 3)).alloc (.cells #[.int .i64 2] 3)).alloc (.cells #[.int .i64 (-2)] 3)).alloc (.cells #[.int .i64 1] 3)).heap[w.heap.size + 1 + 1 + 1 + 1]? = _ from by simpa using heap_alloc_new ((((w.alloc (.cells #[.nilFunc, .nilFunc, .nilFunc, .nilFunc, .nilFunc, .nilFunc, .nilFunc, .nilFunc, .nilFunc, .nilFunc, .nilFunc, .nilFunc, .nilFunc] 79)).alloc (.cells #[.int .i64 4] 3)).alloc (.cells #[.int .i64 2] 3)).alloc (.cells #[.int .i64 (-2)] 3)) (.cells #[.int .i64 1] 3)))
  have hp8 : OneInt ((((((w.alloc (.cells #[.nilFunc, .nilFunc, .nilFunc, .nilFunc, .nilFunc, .nilFunc, .nilFunc, .nilFunc, .nilFunc, .nilFunc, .nilFunc, .nilFunc, .nilFunc] 79)).alloc (.cells #[.int .i64 4] 3)).alloc (.cells #[.int .i64 2] 3)).alloc (.cells #[.int .i64 (-2)] 3)).alloc (.cells #[.int .i64 1] 3)).alloc (.cells #[.int .i64 (-1)] 3)) (w.heap.size + 1 + 1 + 1 + 1 + 1) (-1) := (show ((((((w.alloc (.cells #[.nilFunc, .nilFunc, .nilFunc, .nilFunc, .nilFunc, .nilFunc, .nilFunc, .nilFunc, .nilFunc, .nilFunc, .nilFunc, .nilFunc, .nilFunc] 79)).alloc (.cells #[.int .i64 4] 3)).alloc (.cells #[.int .i64 2] 3)).alloc (.cells #[.int .i64 (-2)] 3)).alloc (.cells #[.int .i64 1] 3)).alloc (.cells #[.int .i64 (-1)] 3)).heap[w.heap.size + 1 + 1 + 1 + 1 + 1]? = _ from by simpa using heap_alloc_new (((((w.alloc (.cells #[.nilFunc, .nilFunc, .nilFunc, .nilFunc, .nilFunc, .nilFunc, .nilFunc, .nilFunc, .nilFunc, .nilFunc, .nilFunc, .nilFunc, .nilFunc] 79)).alloc (.cells #[.int .i64 4] 3)).alloc (.cells #[.int .i64 2] 3)).alloc (.cells #[.int .i64 (-2)] 3)).alloc (.cells #[.int .i64 1] 3)) (.cells #[.int .i64 (-1)] 3))
  go_enter Tryz.func58, Tryz.ntmps58
  go_wp2_with fail
  refine (H.out _ _).mono ?_
  rintro e w1 ⟨rfl, rfl⟩
  go_wp2_with fail
  refine (H.out _ _).mono ?_
  rintro e w1 ⟨rfl, rfl⟩
  go_wp2_with fail
  refine (H.out _ _).mono ?_
  rintro e w1 ⟨rfl, rfl⟩
  go_wp2_with fail
  refine (H.out _ _).mono ?_
  rintro e w1 ⟨rfl, rfl⟩
  go_wp2_with fail
  refine (H.out _ _).mono ?_
  rintro e w1 ⟨rfl, rfl⟩
  generalize ((((((w.alloc (.cells #[.nilFunc, .nilFunc, .nilFunc, .nilFunc, .nilFunc, .nilFunc, .nilFunc, .nilFunc, .nilFunc, .nilFunc, .nilFunc, .nilFunc, .nilFunc] 79)).alloc (.cells #[.int .i64 4] 3)).alloc (.cells #[.int .i64 2] 3)).alloc (.cells #[.int .i64 (-2)] 3)).alloc (.cells #[.int .i64 1] 3)).alloc (.cells #[.int .i64 (-1)] 3)) = w6 at *
  have z0 := cell_at hA 0 _ rfl
  have z1 := cell_at hA 1 _ rfl
  have z2 := cell_at hA 2 _ rfl
  have z3 := cell_at hA 3 _ rfl
  have z4 := cell_at hA 4 _ rfl
  have z5 := cell_at hA 5 _ rfl
  have z6 := cell_at hA 6 _ rfl
  have z7 := cell_at hA 7 _ rfl
  have z8 := cell_at hA 8 _ rfl
  have z9 := cell_at hA 9 _ rfl
  have z10 := cell_at hA 10 _ rfl
  have z11 := cell_at hA 11 _ rfl
  have z12 := cell_at hA 12 _ rfl
  have f6 := fun o => free_at hA o
  have HA := Lib.hid hA
  have Hb := Lib.hid hb
  have Hp3 := Lib.hid hp3
  have Hp5 := Lib.hid hp5
  have Hp6 := Lib.hid hp6
  have Hp7 := Lib.hid hp7
  have Hp8 := Lib.hid hp8
  have hzl := lt_of_block hA
  clear hA hb hp3 hp5 hp6 hp7 hp8 H
  go_wp2_with fail
  have qp3 : w.heap.size < w.heap.size + 1 := by omega
  have qp5 : w.heap.size < w.heap.size + 1 + 1 := by omega
  have qp6 : w.heap.size < w.heap.size + 1 + 1 + 1 := by omega
  have qp7 : w.heap.size < w.heap.size + 1 + 1 + 1 + 1 := by omega
  have qp8 : w.heap.size < w.heap.size + 1 + 1 + 1 + 1 + 1 := by omega
  generalize w.heap.size + 1 + 1 + 1 + 1 + 1 = p8 at *
  generalize w.heap.size + 1 + 1 + 1 + 1 = p7 at *
  generalize w.heap.size + 1 + 1 + 1 = p6 at *
  generalize w.heap.size + 1 + 1 = p5 at *
  generalize w.heap.size + 1 = p3 at *
  have h13 := (heap_set (heap_set (heap_set (heap_set (heap_set (heap_set (heap_set (heap_set (heap_set (heap_set (heap_set (heap_set (heap_set HA.out 0 (.nilFunc)) 1 (.func (.func 114) #[] #[])) 2 (.func (.func 115) #[] #[])) 3 (.func (.func 162) #[] #[.pointer (some ⟨p3, 0, none⟩)])) 4 (.func (.func 117) #[] #[])) 5 (.func (.func 162) #[] #[.pointer (some ⟨p5, 0, none⟩)])) 6 (.func (.func 162) #[] #[.pointer (some ⟨p6, 0, none⟩)])) 7 (.func (.func 162) #[] #[.pointer (some ⟨p7, 0, none⟩)])) 8 (.func (.func 162) #[] #[.pointer (some ⟨p8, 0, none⟩)])) 9 (.func (.func 118) #[] #[])) 10 (.func (.func 119) #[] #[])) 11 (.func (.func 120) #[] #[])) 12 (.func (.func 121) #[] #[]))
  simp only [List.setIfInBounds_toArray, List.set_cons_zero, List.set_cons_succ] at h13
  have k0 := cell_at h13 0 _ rfl
  have k1 := cell_at h13 1 _ rfl
  have k2 := cell_at h13 2 _ rfl
  have k3 := cell_at h13 3 _ rfl
  have k4 := cell_at h13 4 _ rfl
  have k5 := cell_at h13 5 _ rfl
  have k6 := cell_at h13 6 _ rfl
  have k7 := cell_at h13 7 _ rfl
  have k8 := cell_at h13 8 _ rfl
  have k9 := cell_at h13 9 _ rfl
  have k10 := cell_at h13 10 _ rfl
  have k11 := cell_at h13 11 _ rfl
  have k12 := cell_at h13 12 _ rfl
  refine bodyPost_ret (v := .agg (actA p3 p5 p6 p7 p8)) (by simp only [results, Tryz.results58]; simp [go_sem, actA, k0, k1, k2, k3, k4, k5, k6, k7, k8, k9, k10, k11, k12]) rfl ⟨?_, ?_⟩
  · exact ⟨p3, p5, p6, p7, p8, rfl, (((((((((((((Hp3.out.set qp3).set qp3).set qp3).set qp3).set qp3).set qp3).set qp3).set qp3).set qp3).set qp3).set qp3).set qp3).set qp3), (((((((((((((Hp5.out.set qp5).set qp5).set qp5).set qp5).set qp5).set qp5).set qp5).set qp5).set qp5).set qp5).set qp5).set qp5).set qp5), (((((((((((((Hp6.out.set qp6).set qp6).set qp6).set qp6).set qp6).set qp6).set qp6).set qp6).set qp6).set qp6).set qp6).set qp6).set qp6), (((((((((((((Hp7.out.set qp7).set qp7).set qp7).set qp7).set qp7).set qp7).set qp7).set qp7).set qp7).set qp7).set qp7).set qp7).set qp7), (((((((((((((Hp8.out.set qp8).set qp8).set qp8).set qp8).set qp8).set qp8).set qp8).set qp8).set qp8).set qp8).set qp8).set qp8).set qp8)⟩
  · have := Hb.out
    go_grown
end Go.Proofs.YtmpafidkpangeaaGreat
namespace Go.Proofs.YtmpafidkpangeaaGreat
open Go.RowKit
/-- The function value F, C is the action of the gate g, in w and wherever memory has grown since. -/
def ActOK (F : Nat) (C : Array Value) (g : Gt) (w : World) : Prop :=
  (∀ (args : Array Value) (W : World), (callFunc F args).run Tryz.prog W = .ok (.enter F args) W) ∧ ∀ W, Below w.heap.size w W → ∀ i : Nat, i < 16 → Calls Tryz.prog F (#[(.agg #[.int .i64 g.k, .int .i64 g.a, .int .i64 g.b, .int .i64 g.c]), .int .i64 (i : Int)] ++ C) W fun e w' => ∃ v, e = .returned v ∧ contE.Sl w' W.heap.size v (goesG g i) ∧ Below W.heap.size W w'
def gin (a b c : Int) : Prop := (0 ≤ a ∧ a < 4) ∧ (0 ≤ b ∧ b < 4) ∧ (0 ≤ c ∧ c < 4)
theorem gin_nat {a b c : Int} (h : gin a b c) : ∃ A B C : Nat, a = A ∧ b = B ∧ c = C ∧ A < 4 ∧ B < 4 ∧ C < 4 := by
  obtain ⟨h1, h2, h3⟩ := h
  exact ⟨a.toNat, b.toNat, c.toNat, by omega, by omega, by omega, by omega, by omega, by omega⟩
theorem act1 {a b c : Int} (h : gin a b c) (w : World) : ActOK 114 #[] ⟨1, a, b, c⟩ w := by
  obtain ⟨A, B, C, rfl, rfl, rfl, hA, hB, hC⟩ := gin_nat h
  exact ⟨Tryz.call114, fun W _ i hi => iflip 1 A B C i W hA hB hC hi⟩
theorem act2 {a b c : Int} (h : gin a b c) (w : World) : ActOK 115 #[] ⟨2, a, b, c⟩ w := by
  obtain ⟨A, B, C, rfl, rfl, rfl, hA, hB, hC⟩ := gin_nat h
  exact ⟨Tryz.call115, fun W _ i hi => iflipT 2 A B C i W hA hB hC hi⟩
theorem act3 {a b c : Int} {p : Nat} (h : gin a b c) (w : World) (hp : OneInt w p 4) : ActOK 162 #[.pointer (some ⟨p, 0, none⟩)] ⟨3, a, b, c⟩ w := by
  obtain ⟨A, B, C, rfl, rfl, rfl, hA, hB, hC⟩ := gin_nat h
  exact ⟨Tryz.call162, fun W hW i hi => iturn1 3 A B C i 4 p _ W hA hB hC hi ((hW.block _ (lt_of_block hp)).trans hp) ((unitW (bitN i A)).1 4 (by decide))⟩
theorem act4 {a b c : Int} (h : gin a b c) (w : World) : ActOK 117 #[] ⟨4, a, b, c⟩ w := by
  obtain ⟨A, B, C, rfl, rfl, rfl, hA, hB, hC⟩ := gin_nat h
  exact ⟨Tryz.call117, fun W _ i hi => ispread 4 A B C i W hA hi⟩
theorem act5 {a b c : Int} {p : Nat} (h : gin a b c) (w : World) (hp : OneInt w p 2) : ActOK 162 #[.pointer (some ⟨p, 0, none⟩)] ⟨5, a, b, c⟩ w := by
  obtain ⟨A, B, C, rfl, rfl, rfl, hA, hB, hC⟩ := gin_nat h
  exact ⟨Tryz.call162, fun W hW i hi => iturn1 5 A B C i 2 p _ W hA hB hC hi ((hW.block _ (lt_of_block hp)).trans hp) ((unitW (bitN i A)).1 2 (by decide))⟩
theorem act6 {a b c : Int} {p : Nat} (h : gin a b c) (w : World) (hp : OneInt w p (-2)) : ActOK 162 #[.pointer (some ⟨p, 0, none⟩)] ⟨6, a, b, c⟩ w := by
  obtain ⟨A, B, C, rfl, rfl, rfl, hA, hB, hC⟩ := gin_nat h
  exact ⟨Tryz.call162, fun W hW i hi => iturn1 6 A B C i (-2) p _ W hA hB hC hi ((hW.block _ (lt_of_block hp)).trans hp) (unitW (bitN i A)).2.1⟩
theorem act7 {a b c : Int} {p : Nat} (h : gin a b c) (w : World) (hp : OneInt w p 1) : ActOK 162 #[.pointer (some ⟨p, 0, none⟩)] ⟨7, a, b, c⟩ w := by
  obtain ⟨A, B, C, rfl, rfl, rfl, hA, hB, hC⟩ := gin_nat h
  exact ⟨Tryz.call162, fun W hW i hi => iturn1 7 A B C i 1 p _ W hA hB hC hi ((hW.block _ (lt_of_block hp)).trans hp) ((unitW (bitN i A)).1 1 (by decide))⟩
theorem act8 {a b c : Int} {p : Nat} (h : gin a b c) (w : World) (hp : OneInt w p (-1)) : ActOK 162 #[.pointer (some ⟨p, 0, none⟩)] ⟨8, a, b, c⟩ w := by
  obtain ⟨A, B, C, rfl, rfl, rfl, hA, hB, hC⟩ := gin_nat h
  exact ⟨Tryz.call162, fun W hW i hi => iturn1 8 A B C i (-1) p _ W hA hB hC hi ((hW.block _ (lt_of_block hp)).trans hp) (unitW (bitN i A)).2.2⟩
theorem act9 {a b c : Int} (h : gin a b c) (w : World) : ActOK 118 #[] ⟨9, a, b, c⟩ w := by
  obtain ⟨A, B, C, rfl, rfl, rfl, hA, hB, hC⟩ := gin_nat h
  exact ⟨Tryz.call118, fun W _ i hi => iflipO 9 A B C i W hA hB hC hi⟩
theorem act10 {a b c : Int} (h : gin a b c) (w : World) : ActOK 119 #[] ⟨10, a, b, c⟩ w := by
  obtain ⟨A, B, C, rfl, rfl, rfl, hA, hB, hC⟩ := gin_nat h
  exact ⟨Tryz.call119, fun W _ i hi => iturnB 10 A B C i W hA hB hC hi⟩
theorem act11 {a b c : Int} (h : gin a b c) (w : World) : ActOK 120 #[] ⟨11, a, b, c⟩ w := by
  obtain ⟨A, B, C, rfl, rfl, rfl, hA, hB, hC⟩ := gin_nat h
  exact ⟨Tryz.call120, fun W _ i hi => iexch 11 A B C i W hA hB hC hi⟩
theorem act12 {a b c : Int} (h : gin a b c) (w : World) : ActOK 121 #[] ⟨12, a, b, c⟩ w := by
  obtain ⟨A, B, C, rfl, rfl, rfl, hA, hB, hC⟩ := gin_nat h
  exact ⟨Tryz.call121, fun W _ i hi => iflipB 12 A B C i W hA hB hC hi⟩
end Go.Proofs.YtmpafidkpangeaaGreat
