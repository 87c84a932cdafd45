/- The actions of the program's gates: where each sends an amplitude. -/
import Derived.Test.YtkcpemkahkkcmaaGreatSnH
import Derived.Test.YtkcpemkahkkcmaaGreatBaseB09
import Derived.Test.YtkcpemkahkkcmaaGreatBaseB10
import Derived.Test.YtkcpemkahkkcmaaGreatPhF
namespace Go.Proofs.YtkcpemkahkkcmaaGreat
open Go.RowKit
/-- A contribution, six cells. -/
def contE : Enc (Nat × Dw) := ⟨fun p => .int .i64 (p.1 : Int) :: fl p.2, 6, 57, fun _ => rfl, fun x u h => by
  rw [List.mem_cons] at h
  rcases h with rfl | h
  · rfl
  · simp [fl] at h; rcases h with rfl | rfl | rfl | rfl | rfl <;> rfl⟩
theorem new_cont (w : World) (i : Nat) (x : Dw) : contE.Sl (w.alloc (.cells #[.int .i64 (i : Int), .int .i64 x.n.a, .int .i64 x.n.b, .int .i64 x.n.c, .int .i64 x.n.d, .int .i64 x.e] 57)) w.heap.size (.slice (some ⟨w.heap.size, 0, none⟩) 1 1) [(i, x)] :=
  Enc.Sl.mk rfl (Nat.le_refl _) (Nat.le_refl _) ⟨_, heap_alloc_new w _, rfl⟩
theorem new_cont2 (w : World) (i j : Nat) (x y : Dw) : contE.Sl (w.alloc (.cells #[.int .i64 (i : Int), .int .i64 x.n.a, .int .i64 x.n.b, .int .i64 x.n.c, .int .i64 x.n.d, .int .i64 x.e, .int .i64 (j : Int), .int .i64 y.n.a, .int .i64 y.n.b, .int .i64 y.n.c, .int .i64 y.n.d, .int .i64 y.e] 57)) w.heap.size (.slice (some ⟨w.heap.size, 0, none⟩) 2 2) [(i, x), (j, y)] :=
  Enc.Sl.mk rfl (Nat.le_refl _) (Nat.le_refl _) ⟨_, heap_alloc_new w _, rfl⟩
def bI (b : Bool) : Int := if b then 1 else 0
theorem bI_all : ∀ i : Fin 16, ∀ q : Fin 4, bits .and .i64 (((i.val : Nat) : Int) / 2 ^ q.val) 1 = bI (bitN i.val q.val) := by decide +kernel
theorem ibit {i q : Nat} (hi : i < 16) (hq : q < 4) {b : Bool} (hb : bitN i q = b) (w : World) :
    Calls Tryz.prog 79 #[.int .i64 (i : Int), .int .i64 (q : Int)] w fun e w' => e = .returned (.int .i64 (bI b)) ∧ w = w' := by
  rw [← hb, ← show _ = bI (bitN i q) from bI_all ⟨i, hi⟩ ⟨q, hq⟩]
  exact ibitOf i q w (by omega)
attribute [local irreducible] World.cell?
set_option maxRecDepth 100000 in
set_option maxHeartbeats 1600000 in
theorem imove {x k : Int} {J : Nat} {P : Dw} (hx : x = (J : Int)) (hk : dPh k = P) (w : World) :
    Calls Tryz.prog 78 #[.int .i64 x, .int .i64 k] w fun e w' => ∃ v, e = .returned v ∧ contE.Sl w' w.heap.size v [(J, P)] ∧ Below w.heap.size w w' := by
  subst hx
  have H := Lib.hid (show ∀ W, Calls Tryz.prog 95 #[.int .i64 k] W fun e w' => e = .returned (.agg #[.int .i64 P.n.a, .int .i64 P.n.b, .int .i64 P.n.c, .int .i64 P.n.d, .int .i64 P.e]) ∧ Below W.heap.size W w' from fun W => by
    have h := iphase_at k (k % 8).toNat W (by omega)
    rw [← hk]
    exact h)
  clear hk
  go_enter Tryz.func78, Tryz.ntmps78
  go_wp2_with fail
  refine (H.out _).mono ?_
  rintro e w1 ⟨rfl, hb1⟩
  have Hs := Lib.hid ((new_cont w1 J P).mono hb1.size)
  have Hb1 := Lib.hid hb1
  have hs1 := hb1.size
  clear hb1
  go_wp2_with fail
  go_ret
  exact ⟨_, rfl, Hs.out, by have := Hb1.out; go_grown⟩
set_option maxRecDepth 100000 in
set_option maxHeartbeats 3200000 in
theorem iflip (k : Int) (A B C i : Nat) (w : World) (hA : A < 4) (_ : B < 4) (_ : C < 4) (hi : i < 16) :
    Calls Tryz.prog 44 #[(.agg #[.int .i64 ((Gt.mk k A B C)).k, .int .i64 ((Gt.mk k A B C)).a, .int .i64 ((Gt.mk k A B C)).b, .int .i64 ((Gt.mk k A B C)).c]), .int .i64 i] w fun e w' => ∃ v, e = .returned v ∧ contE.Sl w' w.heap.size v [(flipN i A, dPh 0)] ∧ Below w.heap.size w w' := by
  have HX := Lib.hid (heap_alloc_new w (.cells #[.int .i64 ((Gt.mk k A B C)).k, .int .i64 ((Gt.mk k A B C)).a, .int .i64 ((Gt.mk k A B C)).b, .int .i64 ((Gt.mk k A B C)).c] 25))
  obtain ⟨c0, c1, c2, c3⟩ := blk_cells HX.out
  have hS : G1 w w.heap.size (Gt.mk k A B C) (w.alloc (.cells #[.int .i64 ((Gt.mk k A B C)).k, .int .i64 ((Gt.mk k A B C)).a, .int .i64 ((Gt.mk k A B C)).b, .int .i64 ((Gt.mk k A B C)).c] 25)) := ⟨c0, c1, c2, c3, by simp, by go_grown⟩
  have Hb0 := Lib.hid (show Below w.heap.size w (w.alloc (.cells #[.int .i64 ((Gt.mk k A B C)).k, .int .i64 ((Gt.mk k A B C)).a, .int .i64 ((Gt.mk k A B C)).b, .int .i64 ((Gt.mk k A B C)).c] 25)) by go_grown)
  have H := Lib.hid (fun W => imove (x := bits .xor .i64 (i : Int) (wrap64 (2 ^ A))) (k := 0) (flip_bits hi hA) rfl W)
  generalize flipN i A = j at *
  go_enter Tryz.func44, Tryz.ntmps44
  go_wp2_with fail
  refine (H.out _).mono ?_
  rintro e w1 ⟨v, rfl, hd, hb1⟩
  have Hd := Lib.hid (hd.mono (C := w.heap.size) (by simp))
  have Hb1 := Lib.hid (below_nx Hb0.out hb1)
  clear hd hb1
  go_wp2_with fail
  go_ret
  exact ⟨_, rfl, Hd.out, Hb1.out⟩
theorem flipW : ∀ i : Fin 16, ∀ q : Fin 4, bits .xor .i64 ((i.val : Nat) : Int) (IntKind.i64.wrap (2 ^ q.val)) = ((flipN i.val q.val : Nat) : Int) := by decide +kernel
theorem turnW : ∀ a : Bool, dPh (IntKind.i64.wrap (2 + IntKind.i64.wrap (4 * bI a))) = dPh (if a then 6 else 2) := by decide +kernel
theorem oneW : ∀ i : Fin 16, ∀ q r : Fin 4, bits .xor .i64 ((i.val : Nat) : Int) (IntKind.i64.wrap (bI (bitN i.val q.val) * 2 ^ r.val)) = ((if bitN i.val q.val then flipN i.val r.val else i.val : Nat) : Int) := by decide +kernel
theorem bothW : ∀ a b : Bool, dPh (IntKind.i64.wrap (4 * bits .and .i64 (bI a) (bI b))) = if (a && b) then dPh 4 else dPh 0 := by decide +kernel
theorem ccW : ∀ i : Fin 16, ∀ a b : Bool, ∀ r : Fin 4, bits .xor .i64 ((i.val : Nat) : Int) (IntKind.i64.wrap (bits .and .i64 (bI a) (bI b) * 2 ^ r.val)) = ((if (a && b) then flipN i.val r.val else i.val : Nat) : Int) := by decide +kernel
theorem exW : ∀ i : Fin 16, ∀ a b : Bool, ∀ q r : Fin 4, bits .xor .i64 (bits .xor .i64 ((i.val : Nat) : Int) (IntKind.i64.wrap (bits .xor .i64 (bI a) (bI b) * 2 ^ q.val))) (IntKind.i64.wrap (bits .xor .i64 (bI a) (bI b) * 2 ^ r.val)) = ((if a != b then flipN (flipN i.val q.val) r.val else i.val : Nat) : Int) := by decide +kernel
theorem unitW : ∀ a : Bool, (∀ u ∈ [(4 : Int), 2, 1], dPh (IntKind.i64.wrap (u * bI a)) = if a then dPh u else dPh 0) ∧ dPh (IntKind.i64.wrap (-2 * bI a)) = (if a then dPh 6 else dPh 0) ∧ dPh (IntKind.i64.wrap (-1 * bI a)) = if a then dPh 7 else dPh 0 := by decide +kernel
set_option maxRecDepth 100000 in
set_option maxHeartbeats 3200000 in
theorem iflipT (k : Int) (A B C i : Nat) (w : World) (hA : A < 4) (_ : B < 4) (_ : C < 4) (hi : i < 16) :
    Calls Tryz.prog 45 #[(.agg #[.int .i64 ((Gt.mk k A B C)).k, .int .i64 ((Gt.mk k A B C)).a, .int .i64 ((Gt.mk k A B C)).b, .int .i64 ((Gt.mk k A B C)).c]), .int .i64 i] w fun e w' => ∃ v, e = .returned v ∧ contE.Sl w' w.heap.size v [(flipN i A, dPh (if bitN i A then 6 else 2))] ∧ Below w.heap.size w w' := by
  have HX := Lib.hid (heap_alloc_new w (.cells #[.int .i64 ((Gt.mk k A B C)).k, .int .i64 ((Gt.mk k A B C)).a, .int .i64 ((Gt.mk k A B C)).b, .int .i64 ((Gt.mk k A B C)).c] 25))
  obtain ⟨c0, c1, c2, c3⟩ := blk_cells HX.out
  have hS : G1 w w.heap.size (Gt.mk k A B C) (w.alloc (.cells #[.int .i64 ((Gt.mk k A B C)).k, .int .i64 ((Gt.mk k A B C)).a, .int .i64 ((Gt.mk k A B C)).b, .int .i64 ((Gt.mk k A B C)).c] 25)) := ⟨c0, c1, c2, c3, by simp, by go_grown⟩
  have Hb0 := Lib.hid (show Below w.heap.size w (w.alloc (.cells #[.int .i64 ((Gt.mk k A B C)).k, .int .i64 ((Gt.mk k A B C)).a, .int .i64 ((Gt.mk k A B C)).b, .int .i64 ((Gt.mk k A B C)).c] 25)) by go_grown)
  have Hba := Lib.hid (fun W => ibit (i := i) (q := A) hi hA rfl W)
  have hx := flipW ⟨i, hi⟩ ⟨A, hA⟩
  have hk := turnW (bitN i A)
  generalize flipN i A = j at *
  generalize dPh (if bitN i A = true then 6 else 2) = P at *
  generalize bI (bitN i A) = ba at *
  go_enter Tryz.func45, Tryz.ntmps45
  go_upto_region 1 with fail
  go_region_held3 (fun w' => w'.cell? ⟨w.heap.size, 0, none⟩ = some (.int .i64 k) ∧ w'.cell? ⟨w.heap.size, 1, none⟩ = some (.int .i64 (A : Int)) ∧ w'.cell? ⟨w.heap.size, 2, none⟩ = some (.int .i64 (B : Int)) ∧ w'.cell? ⟨w.heap.size, 3, none⟩ = some (.int .i64 (C : Int)) ∧ w.heap.size < w'.heap.size ∧ Below w.heap.size w w') (first | (show G1 w w.heap.size (Gt.mk k A B C) _; (with_reducible exact hS.drew)) | (show G1 w w.heap.size (Gt.mk k A B C) _; (with_reducible refine G1.below ?_ hbR); first | assumption | exact ⟨by assumption, by assumption, by assumption, by assumption, by assumption, by assumption⟩))
    (first | (go_at_call 79; refine (Hba.out _).mono ?_; rintro e wR ⟨rfl, rfl⟩) | (go_at_call 78; refine (imove (J := j) (P := P) (by first | assumption | rfl) (by first | assumption | rfl) _).mono ?_; rintro e wQ ⟨v, rfl, hd, hbM⟩; have HD := Lib.hid hd; have hbR := hbM))
  all_goals
    have Hd := Lib.hid (HD.out.mono (C := w.heap.size) (by simp))
    have Hb1 := Lib.hid (below_nx Hb0.out.drew hbM)
  all_goals go_wp2_with fail
  all_goals go_ret
  all_goals exact ⟨_, rfl, Hd.out, Hb1.out⟩
set_option maxRecDepth 100000 in
set_option maxHeartbeats 3200000 in
theorem iflipO (k : Int) (A B C i : Nat) (w : World) (hA : A < 4) (hB : B < 4) (_ : C < 4) (hi : i < 16) :
    Calls Tryz.prog 48 #[(.agg #[.int .i64 ((Gt.mk k A B C)).k, .int .i64 ((Gt.mk k A B C)).a, .int .i64 ((Gt.mk k A B C)).b, .int .i64 ((Gt.mk k A B C)).c]), .int .i64 i] w fun e w' => ∃ v, e = .returned v ∧ contE.Sl w' w.heap.size v [(if bitN i A then flipN i B else i, dPh 0)] ∧ Below w.heap.size w w' := by
  have HX := Lib.hid (heap_alloc_new w (.cells #[.int .i64 ((Gt.mk k A B C)).k, .int .i64 ((Gt.mk k A B C)).a, .int .i64 ((Gt.mk k A B C)).b, .int .i64 ((Gt.mk k A B C)).c] 25))
  obtain ⟨c0, c1, c2, c3⟩ := blk_cells HX.out
  have hS : G1 w w.heap.size (Gt.mk k A B C) (w.alloc (.cells #[.int .i64 ((Gt.mk k A B C)).k, .int .i64 ((Gt.mk k A B C)).a, .int .i64 ((Gt.mk k A B C)).b, .int .i64 ((Gt.mk k A B C)).c] 25)) := ⟨c0, c1, c2, c3, by simp, by go_grown⟩
  have Hb0 := Lib.hid (show Below w.heap.size w (w.alloc (.cells #[.int .i64 ((Gt.mk k A B C)).k, .int .i64 ((Gt.mk k A B C)).a, .int .i64 ((Gt.mk k A B C)).b, .int .i64 ((Gt.mk k A B C)).c] 25)) by go_grown)
  have Hba := Lib.hid (fun W => ibit (i := i) (q := A) hi hA rfl W)
  have hx := oneW ⟨i, hi⟩ ⟨A, hA⟩ ⟨B, hB⟩
  generalize (if bitN i A = true then flipN i B else i) = j at *
  obtain ⟨P, hP⟩ : ∃ P, dPh 0 = P := ⟨_, rfl⟩
  rw [hP]
  generalize bI (bitN i A) = ba at *
  go_enter Tryz.func48, Tryz.ntmps48
  go_upto_region 1 with fail
  go_region_held3 (fun w' => w'.cell? ⟨w.heap.size, 0, none⟩ = some (.int .i64 k) ∧ w'.cell? ⟨w.heap.size, 1, none⟩ = some (.int .i64 (A : Int)) ∧ w'.cell? ⟨w.heap.size, 2, none⟩ = some (.int .i64 (B : Int)) ∧ w'.cell? ⟨w.heap.size, 3, none⟩ = some (.int .i64 (C : Int)) ∧ w.heap.size < w'.heap.size ∧ Below w.heap.size w w') (first | (show G1 w w.heap.size (Gt.mk k A B C) _; (with_reducible exact hS.drew)) | (show G1 w w.heap.size (Gt.mk k A B C) _; (with_reducible refine G1.below ?_ hbR); first | assumption | exact ⟨by assumption, by assumption, by assumption, by assumption, by assumption, by assumption⟩))
    (first | (go_at_call 79; refine (Hba.out _).mono ?_; rintro e wR ⟨rfl, rfl⟩) | (go_at_call 78; refine (imove (J := j) (P := P) (by first | assumption | rfl) (by first | assumption | rfl) _).mono ?_; rintro e wQ ⟨v, rfl, hd, hbM⟩; have HD := Lib.hid hd; have hbR := hbM))
  all_goals
    have Hd := Lib.hid (HD.out.mono (C := w.heap.size) (by simp))
    have Hb1 := Lib.hid (below_nx Hb0.out.drew hbM)
  all_goals go_wp2_with fail
  all_goals go_ret
  all_goals exact ⟨_, rfl, Hd.out, Hb1.out⟩
set_option maxRecDepth 100000 in
set_option maxHeartbeats 3200000 in
theorem iturnB (k : Int) (A B C i : Nat) (w : World) (hA : A < 4) (hB : B < 4) (_ : C < 4) (hi : i < 16) :
    Calls Tryz.prog 49 #[(.agg #[.int .i64 ((Gt.mk k A B C)).k, .int .i64 ((Gt.mk k A B C)).a, .int .i64 ((Gt.mk k A B C)).b, .int .i64 ((Gt.mk k A B C)).c]), .int .i64 i] w fun e w' => ∃ v, e = .returned v ∧ contE.Sl w' w.heap.size v [(i, if (bitN i A && bitN i B) then dPh 4 else dPh 0)] ∧ Below w.heap.size w w' := by
  have HX := Lib.hid (heap_alloc_new w (.cells #[.int .i64 ((Gt.mk k A B C)).k, .int .i64 ((Gt.mk k A B C)).a, .int .i64 ((Gt.mk k A B C)).b, .int .i64 ((Gt.mk k A B C)).c] 25))
  obtain ⟨c0, c1, c2, c3⟩ := blk_cells HX.out
  have hS : G1 w w.heap.size (Gt.mk k A B C) (w.alloc (.cells #[.int .i64 ((Gt.mk k A B C)).k, .int .i64 ((Gt.mk k A B C)).a, .int .i64 ((Gt.mk k A B C)).b, .int .i64 ((Gt.mk k A B C)).c] 25)) := ⟨c0, c1, c2, c3, by simp, by go_grown⟩
  have Hb0 := Lib.hid (show Below w.heap.size w (w.alloc (.cells #[.int .i64 ((Gt.mk k A B C)).k, .int .i64 ((Gt.mk k A B C)).a, .int .i64 ((Gt.mk k A B C)).b, .int .i64 ((Gt.mk k A B C)).c] 25)) by go_grown)
  have Hba := Lib.hid (fun W => ibit (i := i) (q := A) hi hA rfl W)
  have Hbb := Lib.hid (fun W => ibit (i := i) (q := B) hi hB rfl W)
  have hk := bothW (bitN i A) (bitN i B)
  generalize (if (bitN i A && bitN i B) = true then dPh 4 else dPh 0) = P at *
  generalize bI (bitN i A) = ba at *
  generalize bI (bitN i B) = bb at *
  go_enter Tryz.func49, Tryz.ntmps49
  go_upto_region 1 with fail
  go_region_held3 (fun w' => w'.cell? ⟨w.heap.size, 0, none⟩ = some (.int .i64 k) ∧ w'.cell? ⟨w.heap.size, 1, none⟩ = some (.int .i64 (A : Int)) ∧ w'.cell? ⟨w.heap.size, 2, none⟩ = some (.int .i64 (B : Int)) ∧ w'.cell? ⟨w.heap.size, 3, none⟩ = some (.int .i64 (C : Int)) ∧ w.heap.size < w'.heap.size ∧ Below w.heap.size w w') (first | (show G1 w w.heap.size (Gt.mk k A B C) _; (with_reducible exact hS.drew)) | (show G1 w w.heap.size (Gt.mk k A B C) _; (with_reducible refine G1.below ?_ hbR); first | assumption | exact ⟨by assumption, by assumption, by assumption, by assumption, by assumption, by assumption⟩))
    (first | (go_at_call 79; refine (Hba.out _).mono ?_; rintro e wR ⟨rfl, rfl⟩) | (go_at_call 79; refine (Hbb.out _).mono ?_; rintro e wR ⟨rfl, rfl⟩) | (go_at_call 78; refine (imove (J := i) (P := P) (by first | assumption | rfl) (by first | assumption | rfl) _).mono ?_; rintro e wQ ⟨v, rfl, hd, hbM⟩; have HD := Lib.hid hd; have hbR := hbM))
  all_goals
    have Hd := Lib.hid (HD.out.mono (C := w.heap.size) (by simp))
    have Hb1 := Lib.hid (below_nx Hb0.out.drew hbM)
  all_goals go_wp2_with fail
  all_goals go_ret
  all_goals exact ⟨_, rfl, Hd.out, Hb1.out⟩
set_option maxRecDepth 100000 in
set_option maxHeartbeats 3200000 in
theorem iflipB (k : Int) (A B C i : Nat) (w : World) (hA : A < 4) (hB : B < 4) (hC : C < 4) (hi : i < 16) :
    Calls Tryz.prog 51 #[(.agg #[.int .i64 ((Gt.mk k A B C)).k, .int .i64 ((Gt.mk k A B C)).a, .int .i64 ((Gt.mk k A B C)).b, .int .i64 ((Gt.mk k A B C)).c]), .int .i64 i] w fun e w' => ∃ v, e = .returned v ∧ contE.Sl w' w.heap.size v [(if (bitN i A && bitN i B) then flipN i C else i, dPh 0)] ∧ Below w.heap.size w w' := by
  have HX := Lib.hid (heap_alloc_new w (.cells #[.int .i64 ((Gt.mk k A B C)).k, .int .i64 ((Gt.mk k A B C)).a, .int .i64 ((Gt.mk k A B C)).b, .int .i64 ((Gt.mk k A B C)).c] 25))
  obtain ⟨c0, c1, c2, c3⟩ := blk_cells HX.out
  have hS : G1 w w.heap.size (Gt.mk k A B C) (w.alloc (.cells #[.int .i64 ((Gt.mk k A B C)).k, .int .i64 ((Gt.mk k A B C)).a, .int .i64 ((Gt.mk k A B C)).b, .int .i64 ((Gt.mk k A B C)).c] 25)) := ⟨c0, c1, c2, c3, by simp, by go_grown⟩
  have Hb0 := Lib.hid (show Below w.heap.size w (w.alloc (.cells #[.int .i64 ((Gt.mk k A B C)).k, .int .i64 ((Gt.mk k A B C)).a, .int .i64 ((Gt.mk k A B C)).b, .int .i64 ((Gt.mk k A B C)).c] 25)) by go_grown)
  have Hba := Lib.hid (fun W => ibit (i := i) (q := A) hi hA rfl W)
  have Hbb := Lib.hid (fun W => ibit (i := i) (q := B) hi hB rfl W)
  have hx := ccW ⟨i, hi⟩ (bitN i A) (bitN i B) ⟨C, hC⟩
  generalize (if (bitN i A && bitN i B) = true then flipN i C else i) = j at *
  obtain ⟨P, hP⟩ : ∃ P, dPh 0 = P := ⟨_, rfl⟩
  rw [hP]
  generalize bI (bitN i A) = ba at *
  generalize bI (bitN i B) = bb at *
  go_enter Tryz.func51, Tryz.ntmps51
  go_upto_region 1 with fail
  go_region_held3 (fun w' => w'.cell? ⟨w.heap.size, 0, none⟩ = some (.int .i64 k) ∧ w'.cell? ⟨w.heap.size, 1, none⟩ = some (.int .i64 (A : Int)) ∧ w'.cell? ⟨w.heap.size, 2, none⟩ = some (.int .i64 (B : Int)) ∧ w'.cell? ⟨w.heap.size, 3, none⟩ = some (.int .i64 (C : Int)) ∧ w.heap.size < w'.heap.size ∧ Below w.heap.size w w') (first | (show G1 w w.heap.size (Gt.mk k A B C) _; (with_reducible exact hS.drew)) | (show G1 w w.heap.size (Gt.mk k A B C) _; (with_reducible refine G1.below ?_ hbR); first | assumption | exact ⟨by assumption, by assumption, by assumption, by assumption, by assumption, by assumption⟩))
    (first | (go_at_call 79; refine (Hba.out _).mono ?_; rintro e wR ⟨rfl, rfl⟩) | (go_at_call 79; refine (Hbb.out _).mono ?_; rintro e wR ⟨rfl, rfl⟩) | (go_at_call 78; refine (imove (J := j) (P := P) (by first | assumption | rfl) (by first | assumption | rfl) _).mono ?_; rintro e wQ ⟨v, rfl, hd, hbM⟩; have HD := Lib.hid hd; have hbR := hbM))
  all_goals
    have Hd := Lib.hid (HD.out.mono (C := w.heap.size) (by simp))
    have Hb1 := Lib.hid (below_nx Hb0.out.drew hbM)
  all_goals go_wp2_with fail
  all_goals go_ret
  all_goals exact ⟨_, rfl, Hd.out, Hb1.out⟩
end Go.Proofs.YtkcpemkahkkcmaaGreat
