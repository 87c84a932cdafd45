/- The program's ApplyGate. -/
import Derived.Test.YtlmiebeffdcfhaaGreatBaseC02
import Derived.Test.YtlmiebeffdcfhaaGreatBaseC06
import Derived.Test.YtlmiebeffdcfhaaGreatBaseC04
import Derived.Test.YtlmiebeffdcfhaaGreatDsKa
namespace Go.Proofs.YtlmiebeffdcfhaaGreat
open Go.RowKit
theorem CRow.cells {w : World} {g : Nat} {l : List (Nat × Dw)} (h : contE.Row w g l) {j : Nat} {p : Nat × Dw} (hx : l[j]? = some p) :
    w.cell? ⟨g, j * 6, none⟩ = some (.int .i64 (p.1 : Int)) ∧ w.cell? ⟨g, j * 6 + 1, none⟩ = some (.int .i64 p.2.n.a) ∧ w.cell? ⟨g, j * 6 + 2, none⟩ = some (.int .i64 p.2.n.b) ∧ w.cell? ⟨g, j * 6 + 3, none⟩ = some (.int .i64 p.2.n.c) ∧ w.cell? ⟨g, j * 6 + 4, none⟩ = some (.int .i64 p.2.n.d) ∧ w.cell? ⟨g, j * 6 + 5, none⟩ = some (.int .i64 p.2.e) :=
  ⟨h.at hx (k := 0) rfl, h.at hx (k := 1) rfl, h.at hx (k := 2) rfl, h.at hx (k := 3) rfl, h.at hx (k := 4) rfl, h.at hx (k := 5) rfl⟩
theorem am_step {x u : Dw} {L : List (Nat × Dw)} {k : Nat} {p : Nat × Dw} {o : List Dw} (hp : L[k]? = some p) (hu : o.getD p.1 .zero = u) :
    sendO x (L.drop k) o = if amB u x p.2 then sendO x (L.drop (k + 1)) (o.set p.1 (amV u x p.2)) else none := by
  rw [send_step hp, hu]
  by_cases h : (dMulB x p.2 && dAddB u (dMulV x p.2)) = true
  · rw [if_pos h, if_pos (show amB u x p.2 = true from h), amV, if_pos (show amB u x p.2 = true from h)]
  · rw [if_neg h, if_neg (show ¬ amB u x p.2 = true from h)]
theorem am_ok {u x y : Dw} (h : amB u x y = true) : (amV u x y).ok := by
  have h2 : dAddB u (dMulV x y) = true := by unfold amB at h; simp only [Bool.and_eq_true] at h; exact h.2
  rw [amV, if_pos h]
  exact dAddV_ok h2
def H16 (w : World) (go po : Nat) (u : Dw) (gx : Nat) (x : Dw) (gp p : Nat) (y : Dw) (w' : World) : Prop := w'.cell? ⟨go, po, none⟩ = some (.int .i64 u.n.a) ∧ w'.cell? ⟨go, po + 1, none⟩ = some (.int .i64 u.n.b) ∧ w'.cell? ⟨go, po + 2, none⟩ = some (.int .i64 u.n.c) ∧ w'.cell? ⟨go, po + 3, none⟩ = some (.int .i64 u.n.d) ∧ w'.cell? ⟨go, po + 4, none⟩ = some (.int .i64 u.e) ∧ w'.cell? ⟨gx, 0, none⟩ = some (.int .i64 x.n.a) ∧ w'.cell? ⟨gx, 1, none⟩ = some (.int .i64 x.n.b) ∧ w'.cell? ⟨gx, 2, none⟩ = some (.int .i64 x.n.c) ∧ w'.cell? ⟨gx, 3, none⟩ = some (.int .i64 x.n.d) ∧ w'.cell? ⟨gx, 4, none⟩ = some (.int .i64 x.e) ∧ w'.cell? ⟨gp, 0, none⟩ = some (.int .i64 (p : Int)) ∧ w'.cell? ⟨gp, 1, none⟩ = some (.int .i64 y.n.a) ∧ w'.cell? ⟨gp, 2, none⟩ = some (.int .i64 y.n.b) ∧ w'.cell? ⟨gp, 3, none⟩ = some (.int .i64 y.n.c) ∧ w'.cell? ⟨gp, 4, none⟩ = some (.int .i64 y.n.d) ∧ w'.cell? ⟨gp, 5, none⟩ = some (.int .i64 y.e) ∧ go < w'.heap.size ∧ gx < w'.heap.size ∧ gp < w'.heap.size ∧ Below w.heap.size w w'
theorem H16.drew {w w1 : World} {go po : Nat} {u : Dw} {gx : Nat} {x : Dw} {gp p : Nat} {y : Dw} (h : H16 w go po u gx x gp p y w1) : H16 w go po u gx x gp p y w1.drew :=
  let ⟨c0, c1, c2, c3, c4, c5, c6, c7, c8, c9, c10, c11, c12, c13, c14, c15, z0, z1, z2, l⟩ := h; ⟨c0, c1, c2, c3, c4, c5, c6, c7, c8, c9, c10, c11, c12, c13, c14, c15, z0, z1, z2, l.drew⟩
theorem H16.below {w w1 w2 : World} {go po : Nat} {u : Dw} {gx : Nat} {x : Dw} {gp p : Nat} {y : Dw} (h : H16 w go po u gx x gp p y w1) (hb : Below w1.heap.size w1 w2) : H16 w go po u gx x gp p y w2 :=
  let ⟨c0, c1, c2, c3, c4, c5, c6, c7, c8, c9, c10, c11, c12, c13, c14, c15, z0, z1, z2, l⟩ := h
  ⟨cell_below c0 hb z0, cell_below c1 hb z0, cell_below c2 hb z0, cell_below c3 hb z0, cell_below c4 hb z0, cell_below c5 hb z1, cell_below c6 hb z1, cell_below c7 hb z1, cell_below c8 hb z1, cell_below c9 hb z1, cell_below c10 hb z2, cell_below c11 hb z2, cell_below c12 hb z2, cell_below c13 hb z2, cell_below c14 hb z2, cell_below c15 hb z2, Nat.lt_of_lt_of_le z0 hb.size, Nat.lt_of_lt_of_le z1 hb.size, Nat.lt_of_lt_of_le z2 hb.size, below_up l hb l.size⟩
theorem H16.alloc {w w1 : World} {go po : Nat} {u : Dw} {gx : Nat} {x : Dw} {gp p : Nat} {y : Dw} (h : H16 w go po u gx x gp p y w1) (o : Obj) : H16 w go po u gx x gp p y (w1.alloc o) := h.below ((Below.refl _ _).alloc (Nat.le_refl _) o)
theorem H16.realloc {w W : World} {go po : Nat} {u : Dw} {gx : Nat} {x : Dw} {gp p : Nat} {y : Dw} {lim : Nat} {o o' : Obj} (h : H16 w go po u gx x gp p y (W.alloc o)) (hq : lim ≤ W.heap.size) (hn : go < lim ∧ gx < lim ∧ gp < lim) (hw : w.heap.size ≤ lim) : H16 w go po u gx x gp p y (W.alloc o') :=
  let ⟨c0, c1, c2, c3, c4, c5, c6, c7, c8, c9, c10, c11, c12, c13, c14, c15, _, _, _, l⟩ := h
  ⟨cell_realloc c0 (by omega), cell_realloc c1 (by omega), cell_realloc c2 (by omega), cell_realloc c3 (by omega), cell_realloc c4 (by omega), cell_realloc c5 (by omega), cell_realloc c6 (by omega), cell_realloc c7 (by omega), cell_realloc c8 (by omega), cell_realloc c9 (by omega), cell_realloc c10 (by omega), cell_realloc c11 (by omega), cell_realloc c12 (by omega), cell_realloc c13 (by omega), cell_realloc c14 (by omega), cell_realloc c15 (by omega), (by simp; omega), (by simp; omega), (by simp; omega), below_realloc l (by omega) (by omega)⟩
theorem H16.set5 {w W : World} {go po : Nat} {u : Dw} {gx : Nat} {x : Dw} {gp p : Nat} {y : Dw} {lim k : Nat} {u0 u1 u2 u3 u4 : Value} (h : H16 w go po u gx x gp p y W) (hq : lim ≤ k) (hn : go < lim ∧ gx < lim ∧ gp < lim) (hw : w.heap.size ≤ lim) : H16 w go po u gx x gp p y (((((W.setCell ⟨k, 0, none⟩ u0).setCell ⟨k, 1, none⟩ u1).setCell ⟨k, 2, none⟩ u2).setCell ⟨k, 3, none⟩ u3).setCell ⟨k, 4, none⟩ u4) :=
  let ⟨c0, c1, c2, c3, c4, c5, c6, c7, c8, c9, c10, c11, c12, c13, c14, c15, z0, z1, z2, l⟩ := h
  ⟨cell_far5 c0 (by omega), cell_far5 c1 (by omega), cell_far5 c2 (by omega), cell_far5 c3 (by omega), cell_far5 c4 (by omega), cell_far5 c5 (by omega), cell_far5 c6 (by omega), cell_far5 c7 (by omega), cell_far5 c8 (by omega), cell_far5 c9 (by omega), cell_far5 c10 (by omega), cell_far5 c11 (by omega), cell_far5 c12 (by omega), cell_far5 c13 (by omega), cell_far5 c14 (by omega), cell_far5 c15 (by omega), (by simpa [World.setCell] using z0), (by simpa [World.setCell] using z1), (by simpa [World.setCell] using z2), ((((l.setCell (p := ⟨k, 0, none⟩) (Nat.le_trans hw hq) _).setCell (p := ⟨k, 1, none⟩) (Nat.le_trans hw hq) _).setCell (p := ⟨k, 2, none⟩) (Nat.le_trans hw hq) _).setCell (p := ⟨k, 3, none⟩) (Nat.le_trans hw hq) _).setCell (p := ⟨k, 4, none⟩) (Nat.le_trans hw hq) _⟩
theorem H16.low {w w1 : World} {go po : Nat} {u : Dw} {gx : Nat} {x : Dw} {gp p : Nat} {y : Dw} (h : H16 w go po u gx x gp p y w1) : Below w.heap.size w w1 := let ⟨_, _, _, _, _, _, _, _, _, _, _, _, _, _, _, _, _, _, _, l⟩ := h; l
attribute [local irreducible] World.cell?
set_option maxRecDepth 100000 in
set_option maxHeartbeats 12800000 in
theorem iapG_no0 (B : Nat) (k ga gb gc : Int) (v : Value) (l : List Dw) (w : World) (hv : DSl w B v l) (heb : Eb l) (hlen : l.length ≤ 1048576) (hst : stB l = false) :
    Calls Tryz.prog 115 #[(.agg #[.int .i64 k, .int .i64 ga, .int .i64 gb, .int .i64 gc]), v] w fun e w' => (∃ r, e = .returned (.tuple #[r, .bool false]) ∧ DSl w' w.heap.size r []) ∧ Below w.heap.size w w' := by
  have Hb0 := Lib.hid (show Below w.heap.size w (w.alloc (.cells #[.int .i64 k, .int .i64 ga, .int .i64 gb, .int .i64 gc] 25)) by go_grown)
  have Hg0 := Lib.hid (heap_alloc_new w (.cells #[.int .i64 k, .int .i64 ga, .int .i64 gb, .int .i64 gc] 25))
  have H1 := Lib.hid (ivalidSt B v l (w.alloc (.cells #[.int .i64 k, .int .i64 ga, .int .i64 gb, .int .i64 gc] 25)).drew ((hv.below ((Below.refl _ _).alloc (Nat.le_refl _) (.cells #[.int .i64 k, .int .i64 ga, .int .i64 gb, .int .i64 gc] 25))).block fun _ _ _ => rfl) heb hlen)
  obtain ⟨c0, c1, c2, c3⟩ := blk_cells (heap_alloc_new w (.cells #[.int .i64 k, .int .i64 ga, .int .i64 gb, .int .i64 gc] 25))
  have hS : G1 (w.alloc (.cells #[.int .i64 k, .int .i64 ga, .int .i64 gb, .int .i64 gc] 25)) w.heap.size ⟨k, ga, gb, gc⟩ (w.alloc (.cells #[.int .i64 k, .int .i64 ga, .int .i64 gb, .int .i64 gc] 25)) := ⟨c0, c1, c2, c3, by simp, Below.refl _ _⟩
  rw [hst] at H1
  clear hst hv heb
  go_enter Tryz.func115, Tryz.ntmps115
  go_upto_region 1 with fail
  refine wp_region_held_drew (S := (fun w' => w'.cell? ⟨w.heap.size, 0, none⟩ = some (.int .i64 k) ∧ w'.cell? ⟨w.heap.size, 1, none⟩ = some (.int .i64 ga) ∧ w'.cell? ⟨w.heap.size, 2, none⟩ = some (.int .i64 gb) ∧ w'.cell? ⟨w.heap.size, 3, none⟩ = some (.int .i64 gc) ∧ w.heap.size < w'.heap.size ∧ Below (w.alloc (.cells #[.int .i64 k, .int .i64 ga, .int .i64 gb, .int .i64 gc] 25)).heap.size (w.alloc (.cells #[.int .i64 k, .int .i64 ga, .int .i64 gb, .int .i64 gc] 25)) w')) (by kernel_rfl) ?_ (fun hHeld => ?_)
  · exact hS.drew
  refine wpAnyH_take (i := 0) (oi := _) (v := ?_) op_at0 (by kernel_rfl) (by kernel_rfl) (by kernel_rfl) (fun _ _ _ h => h) (Or.inl ⟨by rfl, ?_⟩) (by assumption) ?_
  rotate_left
  · intro w hSw
    (try dsimp only at hSw)
    go_simp
    (try with_reducible rfl)
  (try simp only [Act.put, List.setIfInBounds_toArray, List.set_cons_zero, List.set_cons_succ])
  refine wpAnyH_ready (rs := [1]) (by kernel_rfl) (by simp) ?_
  refine AllReadyH.cons (o := _) op_at1 (fun K hK => ?_) ?_
  · go_simp
    refine (H1.out).mono ?_
    rintro e wR ⟨rfl, hbR⟩
    go_wp2_with fail
    refine hK.out _ _ ?_ (fun hHeld => ?_)
    · exact hS.drew.below hbR
    clear hK K
    (try simp only [Act.put, List.setIfInBounds_toArray, List.set_cons_zero, List.set_cons_succ])
    refine wpAnyH_take (i := 2) (oi := _) (v := ?_) op_at2 (by kernel_rfl) (by kernel_rfl) (by kernel_rfl) (fun _ _ _ h => h) (Or.inl ⟨by rfl, ?_⟩) (by assumption) ?_
    rotate_left
    · intro w hSw
      (try dsimp only at hSw)
      go_simp
      (try with_reducible rfl)
    (try simp only [Act.put, List.setIfInBounds_toArray, List.set_cons_zero, List.set_cons_succ])
    refine wpAnyH_take (i := 3) (oi := _) (v := ?_) op_at3 (by kernel_rfl) (by kernel_rfl) (by kernel_rfl) (fun _ _ _ h => h) (Or.inl ⟨by rfl, ?_⟩) (by assumption) ?_
    rotate_left
    · intro w hSw
      (try dsimp only at hSw)
      go_simp
      (try with_reducible rfl)
    (try simp only [Act.put, List.setIfInBounds_toArray, List.set_cons_zero, List.set_cons_succ])
    refine wpAnyH_take (i := 4) (oi := _) (v := undef) op_at4 (by kernel_rfl) (by kernel_rfl) (by kernel_rfl) (fun _ _ _ h => h) (Or.inr ⟨by rfl, rfl⟩) (by assumption) ?_
    (try simp only [Act.put, List.setIfInBounds_toArray, List.set_cons_zero, List.set_cons_succ])
    refine wpAnyH_take (i := 5) (oi := _) (v := undef) op_at5 (by kernel_rfl) (by kernel_rfl) (by kernel_rfl) (fun _ _ _ h => h) (Or.inr ⟨by rfl, rfl⟩) (by assumption) ?_
    (try simp only [Act.put, List.setIfInBounds_toArray, List.set_cons_zero, List.set_cons_succ])
    refine wpAnyH_take (i := 6) (oi := _) (v := undef) op_at6 (by kernel_rfl) (by kernel_rfl) (by kernel_rfl) (fun _ _ _ h => h) (Or.inr ⟨by rfl, rfl⟩) (by assumption) ?_
    (try simp only [Act.put, List.setIfInBounds_toArray, List.set_cons_zero, List.set_cons_succ])
    refine wpAnyH_take (i := 7) (oi := _) (v := undef) op_at7 (by kernel_rfl) (by kernel_rfl) (by kernel_rfl) (fun _ _ _ h => h) (Or.inr ⟨by rfl, rfl⟩) (by assumption) ?_
    (try simp only [Act.put, List.setIfInBounds_toArray, List.set_cons_zero, List.set_cons_succ])
    refine wpAnyH_take (i := 8) (oi := _) (v := undef) op_at8 (by kernel_rfl) (by kernel_rfl) (by kernel_rfl) (fun _ _ _ h => h) (Or.inr ⟨by rfl, rfl⟩) (by assumption) ?_
    (try simp only [Act.put, List.setIfInBounds_toArray, List.set_cons_zero, List.set_cons_succ])
    refine wpAnyH_take (i := 9) (oi := _) (v := ?_) op_at9 (by kernel_rfl) (by kernel_rfl) (by kernel_rfl) (fun _ _ _ h => h) (Or.inl ⟨by rfl, ?_⟩) (by assumption) ?_
    rotate_left
    · intro w hSw
      (try dsimp only at hSw)
      go_simp
      (try with_reducible rfl)
    (try simp only [Act.put, List.setIfInBounds_toArray, List.set_cons_zero, List.set_cons_succ])
    refine wpAnyH_done (by kernel_rfl) ?_ _
    have Hb1 := Lib.hid (below_nx Hb0.out.drew hbR)
    have hs1 := Hb1.out.size
    clear hbR
    go_wp2_with fail
    go_returns
    exact ⟨⟨_, rfl, DSl.nil⟩, by have := Hb1.out; go_grown⟩
  · exact AllReadyH.nil
set_option maxRecDepth 100000 in
set_option maxHeartbeats 12800000 in
theorem iapG_no1 (B : Nat) (k ga gb gc : Int) (v : Value) (l : List Dw) (w : World) (hv : DSl w B v l) (heb : Eb l) (hlen : l.length ≤ 1048576) (hst : stB l = true) (hg : gtB ⟨k, ga, gb, gc⟩ (qc l.length) = false) :
    Calls Tryz.prog 115 #[(.agg #[.int .i64 k, .int .i64 ga, .int .i64 gb, .int .i64 gc]), v] w fun e w' => (∃ r, e = .returned (.tuple #[r, .bool false]) ∧ DSl w' w.heap.size r []) ∧ Below w.heap.size w w' := by
  have Hb0 := Lib.hid (show Below w.heap.size w (w.alloc (.cells #[.int .i64 k, .int .i64 ga, .int .i64 gb, .int .i64 gc] 25)) by go_grown)
  have Hg0 := Lib.hid (heap_alloc_new w (.cells #[.int .i64 k, .int .i64 ga, .int .i64 gb, .int .i64 gc] 25))
  have H1 := Lib.hid (ivalidSt B v l (w.alloc (.cells #[.int .i64 k, .int .i64 ga, .int .i64 gb, .int .i64 gc] 25)).drew ((hv.below ((Below.refl _ _).alloc (Nat.le_refl _) (.cells #[.int .i64 k, .int .i64 ga, .int .i64 gb, .int .i64 gc] 25))).block fun _ _ _ => rfl) heb hlen)
  have H3 := Lib.hid (fun W => ivalidG ⟨k, ga, gb, gc⟩ (qc l.length) W (by have := qc_range l.length; omega) (by have := qc_range l.length; omega))
  simp only [hg] at H3
  rw [hst] at H1
  obtain ⟨c0, c1, c2, c3⟩ := blk_cells (heap_alloc_new w (.cells #[.int .i64 k, .int .i64 ga, .int .i64 gb, .int .i64 gc] 25))
  have hS : G1 (w.alloc (.cells #[.int .i64 k, .int .i64 ga, .int .i64 gb, .int .i64 gc] 25)) w.heap.size ⟨k, ga, gb, gc⟩ (w.alloc (.cells #[.int .i64 k, .int .i64 ga, .int .i64 gb, .int .i64 gc] 25)) := ⟨c0, c1, c2, c3, by simp, Below.refl _ _⟩
  obtain ⟨a, cap, rfl, hcap, -⟩ := hv
  have Hq := Lib.hid (fun W => iqubits0 a l.length cap W)
  have hqr := qc_range l.length
  generalize qc l.length = n at *
  clear hst hg heb
  go_enter Tryz.func115, Tryz.ntmps115
  go_upto_region 1 with fail
  refine wp_region_held_drew (S := (fun w' => w'.cell? ⟨w.heap.size, 0, none⟩ = some (.int .i64 k) ∧ w'.cell? ⟨w.heap.size, 1, none⟩ = some (.int .i64 ga) ∧ w'.cell? ⟨w.heap.size, 2, none⟩ = some (.int .i64 gb) ∧ w'.cell? ⟨w.heap.size, 3, none⟩ = some (.int .i64 gc) ∧ w.heap.size < w'.heap.size ∧ Below (w.alloc (.cells #[.int .i64 k, .int .i64 ga, .int .i64 gb, .int .i64 gc] 25)).heap.size (w.alloc (.cells #[.int .i64 k, .int .i64 ga, .int .i64 gb, .int .i64 gc] 25)) w')) (by kernel_rfl) ?_ (fun hHeld => ?_)
  · exact hS.drew
  refine wpAnyH_take (i := 0) (oi := _) (v := ?_) op_at0 (by kernel_rfl) (by kernel_rfl) (by kernel_rfl) (fun _ _ _ h => h) (Or.inl ⟨by rfl, ?_⟩) (by assumption) ?_
  rotate_left
  · intro w hSw
    (try dsimp only at hSw)
    go_simp
    (try with_reducible rfl)
  (try simp only [Act.put, List.setIfInBounds_toArray, List.set_cons_zero, List.set_cons_succ])
  refine wpAnyH_ready (rs := [1]) (by kernel_rfl) (by simp) ?_
  refine AllReadyH.cons (o := _) op_at1 (fun K hK => ?_) ?_
  · go_simp
    refine (H1.out).mono ?_
    rintro e wR ⟨rfl, hbR⟩
    go_wp2_with fail
    refine hK.out _ _ ?_ (fun hHeld => ?_)
    · exact hS.drew.below hbR
    clear hK K
    (try simp only [Act.put, List.setIfInBounds_toArray, List.set_cons_zero, List.set_cons_succ])
    refine wpAnyH_take (i := 2) (oi := _) (v := ?_) op_at2 (by kernel_rfl) (by kernel_rfl) (by kernel_rfl) (fun _ _ _ h => h) (Or.inl ⟨by rfl, ?_⟩) (by assumption) ?_
    rotate_left
    · intro w hSw
      (try dsimp only at hSw)
      go_simp
      (try with_reducible rfl)
    (try simp only [Act.put, List.setIfInBounds_toArray, List.set_cons_zero, List.set_cons_succ])
    refine wpAnyH_take (i := 3) (oi := _) (v := ?_) op_at3 (by kernel_rfl) (by kernel_rfl) (by kernel_rfl) (fun _ _ _ h => h) (Or.inl ⟨by rfl, ?_⟩) (by assumption) ?_
    rotate_left
    · intro w hSw
      (try dsimp only at hSw)
      go_simp
      (try with_reducible rfl)
    (try simp only [Act.put, List.setIfInBounds_toArray, List.set_cons_zero, List.set_cons_succ])
    refine wpAnyH_take (i := 4) (oi := _) (v := ?_) op_at4 (by kernel_rfl) (by kernel_rfl) (by kernel_rfl) (fun _ _ _ h => h) (Or.inl ⟨by rfl, ?_⟩) (by assumption) ?_
    rotate_left
    · intro w hSw
      (try dsimp only at hSw)
      go_simp
      (try with_reducible rfl)
    (try simp only [Act.put, List.setIfInBounds_toArray, List.set_cons_zero, List.set_cons_succ])
    refine wpAnyH_take (i := 5) (oi := _) (v := ?_) op_at5 (by kernel_rfl) (by kernel_rfl) (by kernel_rfl) (fun _ _ _ h => h) (Or.inl ⟨by rfl, ?_⟩) (by assumption) ?_
    rotate_left
    · intro w hSw
      (try dsimp only at hSw)
      go_simp
      (try with_reducible rfl)
    (try simp only [Act.put, List.setIfInBounds_toArray, List.set_cons_zero, List.set_cons_succ])
    refine wpAnyH_ready (rs := [6]) (by kernel_rfl) (by simp) ?_
    refine AllReadyH.cons (o := _) op_at6 (fun K hK => ?_) ?_
    · go_simp
      refine (Hq.out _).mono ?_
      rintro e wQ ⟨rfl, rfl⟩
      go_wp2_with fail
      refine hK.out _ _ ?_ (fun hHeld => ?_)
      · exact hHeld
      clear hK K
      (try simp only [Act.put, List.setIfInBounds_toArray, List.set_cons_zero, List.set_cons_succ])
      refine wpAnyH_ready (rs := [7]) (by kernel_rfl) (by simp) ?_
      refine AllReadyH.cons (o := _) op_at7 (fun K hK => ?_) ?_
      · go_simp
        refine (H3.out _).mono ?_
        rintro e wz ⟨rfl, hbz⟩
        go_wp2_with fail
        refine hK.out _ _ ?_ (fun hHeld => ?_)
        · exact (show G1 (w.alloc (.cells #[.int .i64 k, .int .i64 ga, .int .i64 gb, .int .i64 gc] 25)) w.heap.size ⟨k, ga, gb, gc⟩ wR from hHeld).below hbz
        clear hK K
        (try simp only [Act.put, List.setIfInBounds_toArray, List.set_cons_zero, List.set_cons_succ])
        refine wpAnyH_take (i := 8) (oi := _) (v := ?_) op_at8 (by kernel_rfl) (by kernel_rfl) (by kernel_rfl) (fun _ _ _ h => h) (Or.inl ⟨by rfl, ?_⟩) (by assumption) ?_
        rotate_left
        · intro w hSw
          (try dsimp only at hSw)
          go_simp
          (try with_reducible rfl)
        (try simp only [Act.put, List.setIfInBounds_toArray, List.set_cons_zero, List.set_cons_succ])
        refine wpAnyH_take (i := 9) (oi := _) (v := ?_) op_at9 (by kernel_rfl) (by kernel_rfl) (by kernel_rfl) (fun _ _ _ h => h) (Or.inl ⟨by rfl, ?_⟩) (by assumption) ?_
        rotate_left
        · intro w hSw
          (try dsimp only at hSw)
          go_simp
          (try with_reducible rfl)
        (try simp only [Act.put, List.setIfInBounds_toArray, List.set_cons_zero, List.set_cons_succ])
        refine wpAnyH_done (by kernel_rfl) ?_ _
        have hSz : G1 (w.alloc (.cells #[.int .i64 k, .int .i64 ga, .int .i64 gb, .int .i64 gc] 25)) w.heap.size ⟨k, ga, gb, gc⟩ wz := hHeld
        have HGz := Lib.hid (below_blk hbz (by have h1 := hbR.size; have h2 : (w.alloc (.cells #[.int .i64 k, .int .i64 ga, .int .i64 gb, .int .i64 gc] 25)).drew.heap.size = w.heap.size + 1 := (by simp [World.drew]); omega) (below_blk hbR (by simp [World.drew]) (show (w.alloc (.cells #[.int .i64 k, .int .i64 ga, .int .i64 gb, .int .i64 gc] 25)).drew.heap[w.heap.size]? = _ from Hg0.out)))
        have Hbz := Lib.hid (Hb0.out.trans (hSz.low.mono (by simp)))
        have hsz := Hbz.out.size
        have hGz := lt_of_block HGz.out
        clear hbR hbz hS hSz hHeld c0 c1 c2 c3 H1 H3 Hq
        go_wp2_with fail
        go_returns
        exact ⟨⟨_, rfl, DSl.nil⟩, by have := Hbz.out; go_grown⟩
      · exact AllReadyH.nil
    · exact AllReadyH.nil
  · exact AllReadyH.nil
theorem set_off {w : World} {b k g : Nat} {v : Value} (h : g ≠ b) : (w.setCell ⟨b, k, none⟩ v).heap[g]? = w.heap[g]? := by
  show (w.heap.modify b _)[g]? = _
  rw [Array.getElem?_modify, if_neg (by omega)]
theorem set5_off {w : World} {b k0 k1 k2 k3 k4 g : Nat} {v0 v1 v2 v3 v4 : Value} (h : g ≠ b) : (((((w.setCell ⟨b, k0, none⟩ v0).setCell ⟨b, k1, none⟩ v1).setCell ⟨b, k2, none⟩ v2).setCell ⟨b, k3, none⟩ v3).setCell ⟨b, k4, none⟩ v4).heap[g]? = w.heap[g]? :=
  (set_off h).trans ((set_off h).trans ((set_off h).trans ((set_off h).trans (set_off h))))
set_option maxRecDepth 100000 in
set_option maxHeartbeats 12800000 in
theorem iapG_yes (B : Nat) (k ga gb gc : Int) (v : Value) (l : List Dw) (w : World) (hv : DSl w B v l) (hst : stB l = true) (hg : gtB ⟨k, ga, gb, gc⟩ (qc l.length) = true) :
    Calls Tryz.prog 115 #[(.agg #[.int .i64 k, .int .i64 ga, .int .i64 gb, .int .i64 gc]), v] w fun e w' => (∃ r, e = .returned (.tuple #[r, .bool (agB ⟨k, ga, gb, gc⟩ l)]) ∧ DSl w' w.heap.size r (agV ⟨k, ga, gb, gc⟩ l)) ∧ Below w.heap.size w w' := by
  obtain ⟨i0, hi, hz0, hz1, hz2⟩ := info_parts infoDw
  have hlen16 := stB_len hst
  have hlen : l.length ≤ 1048576 := by omega
  have hall := (stB_iff.1 hst).1
  have heb : Eb l := fun x hx => ok_eb (hall x hx)
  have Hb0 := Lib.hid (show Below w.heap.size w (w.alloc (.cells #[.int .i64 k, .int .i64 ga, .int .i64 gb, .int .i64 gc] 25)) by go_grown)
  have Hg0 := Lib.hid (heap_alloc_new w (.cells #[.int .i64 k, .int .i64 ga, .int .i64 gb, .int .i64 gc] 25))
  have H1 := Lib.hid (ivalidSt B v l (w.alloc (.cells #[.int .i64 k, .int .i64 ga, .int .i64 gb, .int .i64 gc] 25)).drew ((hv.below ((Below.refl _ _).alloc (Nat.le_refl _) (.cells #[.int .i64 k, .int .i64 ga, .int .i64 gb, .int .i64 gc] 25))).block fun _ _ _ => rfl) heb hlen)
  have H3 := Lib.hid (fun W => ivalidG ⟨k, ga, gb, gc⟩ (qc l.length) W (by have := qc_range l.length; omega) (by have := qc_range l.length; omega))
  simp only [hg] at H3
  rw [hst] at H1
  obtain ⟨hn, hgk, hga, hgb, hgc⟩ := gtB_parts hg
  simp only [] at hgk hga hgb hgc
  have Hk := Lib.hid hgk
  have Hgin := Lib.hid (show gin ga gb gc from ⟨⟨hga.1, by omega⟩, ⟨hgb.1, by omega⟩, ⟨hgc.1, by omega⟩⟩)
  have Hin := Lib.hid (fun i (h : i < l.length) => show ∀ p ∈ goesG ⟨k, ga, gb, gc⟩ i, p.1 < l.length ∧ p.2.ok from fun p hp => ⟨goesG_in hg h p hp, goesG_ok _ _ p hp⟩)
  have Hok0 := Lib.hid hall
  have Hlen := Lib.hid (fun i => goes_len (g := ⟨k, ga, gb, gc⟩) (i := i))
  have HO := Lib.hid (show agO ⟨k, ga, gb, gc⟩ l = apO (goesG ⟨k, ga, gb, gc⟩) 0 l (List.replicate l.length .zero) by unfold agO; rw [hst, hg]; rfl)
  have HV := Lib.hid (show agV ⟨k, ga, gb, gc⟩ l = (agO ⟨k, ga, gb, gc⟩ l).getD [] from rfl)
  have HT := Lib.hid (show agB ⟨k, ga, gb, gc⟩ l = (agO ⟨k, ga, gb, gc⟩ l).isSome from rfl)
  have Ht := Lib.hid (show ∀ w, Calls Tryz.prog 134 #[] w fun e w' => (∃ p3 p5 p6 p7 p8 : Nat, e = .returned (.agg #[.nilFunc, .func (.func 143) #[] #[], .func (.func 144) #[] #[], .func (.func 157) #[] #[.pointer (some ⟨p3, 0, none⟩)], .func (.func 146) #[] #[], .func (.func 157) #[] #[.pointer (some ⟨p5, 0, none⟩)], .func (.func 157) #[] #[.pointer (some ⟨p6, 0, none⟩)], .func (.func 157) #[] #[.pointer (some ⟨p7, 0, none⟩)], .func (.func 157) #[] #[.pointer (some ⟨p8, 0, none⟩)], .func (.func 147) #[] #[], .func (.func 148) #[] #[], .func (.func 149) #[] #[], .func (.func 150) #[] #[]]) ∧ OneInt w' p3 4 ∧ OneInt w' p5 2 ∧ OneInt w' p6 (-2) ∧ OneInt w' p7 1 ∧ OneInt w' p8 (-1)) ∧ Below w.heap.size w w' from itable)
  generalize agV ⟨k, ga, gb, gc⟩ l = V at *
  generalize agB ⟨k, ga, gb, gc⟩ l = T at *
  generalize agO ⟨k, ga, gb, gc⟩ l = O at *
  obtain ⟨c0, c1, c2, c3⟩ := blk_cells (heap_alloc_new w (.cells #[.int .i64 k, .int .i64 ga, .int .i64 gb, .int .i64 gc] 25))
  have hS : G1 (w.alloc (.cells #[.int .i64 k, .int .i64 ga, .int .i64 gb, .int .i64 gc] 25)) w.heap.size ⟨k, ga, gb, gc⟩ (w.alloc (.cells #[.int .i64 k, .int .i64 ga, .int .i64 gb, .int .i64 gc] 25)) := ⟨c0, c1, c2, c3, by simp, Below.refl _ _⟩
  obtain ⟨a, cap, rfl, hcap, hr⟩ := hv
  have Hq := Lib.hid (fun W => iqubits0 a l.length cap W)
  have Hr := Lib.hid hr
  have hqr := qc_range l.length
  generalize qc l.length = n at *
  clear hst hg hr hgk hga hgb hgc hn heb hall hlen
  go_enter Tryz.func115, Tryz.ntmps115
  go_upto_region 1 with fail
  refine wp_region_held_drew (S := (fun w' => w'.cell? ⟨w.heap.size, 0, none⟩ = some (.int .i64 k) ∧ w'.cell? ⟨w.heap.size, 1, none⟩ = some (.int .i64 ga) ∧ w'.cell? ⟨w.heap.size, 2, none⟩ = some (.int .i64 gb) ∧ w'.cell? ⟨w.heap.size, 3, none⟩ = some (.int .i64 gc) ∧ w.heap.size < w'.heap.size ∧ Below (w.alloc (.cells #[.int .i64 k, .int .i64 ga, .int .i64 gb, .int .i64 gc] 25)).heap.size (w.alloc (.cells #[.int .i64 k, .int .i64 ga, .int .i64 gb, .int .i64 gc] 25)) w')) (by kernel_rfl) ?_ (fun hHeld => ?_)
  · exact hS.drew
  refine wpAnyH_take (i := 0) (oi := _) (v := ?_) op_at0 (by kernel_rfl) (by kernel_rfl) (by kernel_rfl) (fun _ _ _ h => h) (Or.inl ⟨by rfl, ?_⟩) (by assumption) ?_
  rotate_left
  · intro w hSw
    (try dsimp only at hSw)
    go_simp
    (try with_reducible rfl)
  (try simp only [Act.put, List.setIfInBounds_toArray, List.set_cons_zero, List.set_cons_succ])
  refine wpAnyH_ready (rs := [1]) (by kernel_rfl) (by simp) ?_
  refine AllReadyH.cons (o := _) op_at1 (fun K hK => ?_) ?_
  · go_simp
    refine (H1.out).mono ?_
    rintro e wR ⟨rfl, hbR⟩
    go_wp2_with fail
    refine hK.out _ _ ?_ (fun hHeld => ?_)
    · exact hS.drew.below hbR
    clear hK K
    (try simp only [Act.put, List.setIfInBounds_toArray, List.set_cons_zero, List.set_cons_succ])
    refine wpAnyH_take (i := 2) (oi := _) (v := ?_) op_at2 (by kernel_rfl) (by kernel_rfl) (by kernel_rfl) (fun _ _ _ h => h) (Or.inl ⟨by rfl, ?_⟩) (by assumption) ?_
    rotate_left
    · intro w hSw
      (try dsimp only at hSw)
      go_simp
      (try with_reducible rfl)
    (try simp only [Act.put, List.setIfInBounds_toArray, List.set_cons_zero, List.set_cons_succ])
    refine wpAnyH_take (i := 3) (oi := _) (v := ?_) op_at3 (by kernel_rfl) (by kernel_rfl) (by kernel_rfl) (fun _ _ _ h => h) (Or.inl ⟨by rfl, ?_⟩) (by assumption) ?_
    rotate_left
    · intro w hSw
      (try dsimp only at hSw)
      go_simp
      (try with_reducible rfl)
    (try simp only [Act.put, List.setIfInBounds_toArray, List.set_cons_zero, List.set_cons_succ])
    refine wpAnyH_take (i := 4) (oi := _) (v := ?_) op_at4 (by kernel_rfl) (by kernel_rfl) (by kernel_rfl) (fun _ _ _ h => h) (Or.inl ⟨by rfl, ?_⟩) (by assumption) ?_
    rotate_left
    · intro w hSw
      (try dsimp only at hSw)
      go_simp
      (try with_reducible rfl)
    (try simp only [Act.put, List.setIfInBounds_toArray, List.set_cons_zero, List.set_cons_succ])
    refine wpAnyH_take (i := 5) (oi := _) (v := ?_) op_at5 (by kernel_rfl) (by kernel_rfl) (by kernel_rfl) (fun _ _ _ h => h) (Or.inl ⟨by rfl, ?_⟩) (by assumption) ?_
    rotate_left
    · intro w hSw
      (try dsimp only at hSw)
      go_simp
      (try with_reducible rfl)
    (try simp only [Act.put, List.setIfInBounds_toArray, List.set_cons_zero, List.set_cons_succ])
    refine wpAnyH_ready (rs := [6]) (by kernel_rfl) (by simp) ?_
    refine AllReadyH.cons (o := _) op_at6 (fun K hK => ?_) ?_
    · go_simp
      refine (Hq.out _).mono ?_
      rintro e wQ ⟨rfl, rfl⟩
      go_wp2_with fail
      refine hK.out _ _ ?_ (fun hHeld => ?_)
      · exact hHeld
      clear hK K
      (try simp only [Act.put, List.setIfInBounds_toArray, List.set_cons_zero, List.set_cons_succ])
      refine wpAnyH_ready (rs := [7]) (by kernel_rfl) (by simp) ?_
      refine AllReadyH.cons (o := _) op_at7 (fun K hK => ?_) ?_
      · go_simp
        refine (H3.out _).mono ?_
        rintro e wz ⟨rfl, hbz⟩
        go_wp2_with fail
        refine hK.out _ _ ?_ (fun hHeld => ?_)
        · exact (show G1 (w.alloc (.cells #[.int .i64 k, .int .i64 ga, .int .i64 gb, .int .i64 gc] 25)) w.heap.size ⟨k, ga, gb, gc⟩ wR from hHeld).below hbz
        clear hK K
        (try simp only [Act.put, List.setIfInBounds_toArray, List.set_cons_zero, List.set_cons_succ])
        refine wpAnyH_take (i := 8) (oi := _) (v := ?_) op_at8 (by kernel_rfl) (by kernel_rfl) (by kernel_rfl) (fun _ _ _ h => h) (Or.inl ⟨by rfl, ?_⟩) (by assumption) ?_
        rotate_left
        · intro w hSw
          (try dsimp only at hSw)
          go_simp
          (try with_reducible rfl)
        (try simp only [Act.put, List.setIfInBounds_toArray, List.set_cons_zero, List.set_cons_succ])
        refine wpAnyH_take (i := 9) (oi := _) (v := ?_) op_at9 (by kernel_rfl) (by kernel_rfl) (by kernel_rfl) (fun _ _ _ h => h) (Or.inl ⟨by rfl, ?_⟩) (by assumption) ?_
        rotate_left
        · intro w hSw
          (try dsimp only at hSw)
          go_simp
          (try with_reducible rfl)
        (try simp only [Act.put, List.setIfInBounds_toArray, List.set_cons_zero, List.set_cons_succ])
        refine wpAnyH_done (by kernel_rfl) ?_ _
        have hSz : G1 (w.alloc (.cells #[.int .i64 k, .int .i64 ga, .int .i64 gb, .int .i64 gc] 25)) w.heap.size ⟨k, ga, gb, gc⟩ wz := hHeld
        have HGz := Lib.hid (below_blk hbz (by have h1 := hbR.size; have h2 : (w.alloc (.cells #[.int .i64 k, .int .i64 ga, .int .i64 gb, .int .i64 gc] 25)).drew.heap.size = w.heap.size + 1 := (by simp [World.drew]); omega) (below_blk hbR (by simp [World.drew]) (show (w.alloc (.cells #[.int .i64 k, .int .i64 ga, .int .i64 gb, .int .i64 gc] 25)).drew.heap[w.heap.size]? = _ from Hg0.out)))
        have Hbz := Lib.hid (Hb0.out.trans (hSz.low.mono (by simp)))
        have hsz := Hbz.out.size
        have hGz := lt_of_block HGz.out
        clear hbR hbz hS hSz hHeld c0 c1 c2 c3 H1 H3 Hq
        go_upto_region 3 with fail
        go_cut [6] from 24 to 27 (fun s6 wx => ∃ (F : Nat) (C : Array Value), s6 = .func (.func F) #[] C ∧ Hid (ActOK F C ⟨k, ga, gb, gc⟩ wx) ∧ Hid (Below wz.heap.size wz wx))
        case first =>
          have hk12 : k = 1 ∨ k = 2 ∨ k = 3 ∨ k = 4 ∨ k = 5 ∨ k = 6 ∨ k = 7 ∨ k = 8 ∨ k = 9 ∨ k = 10 ∨ k = 11 ∨ k = 12 := by have := Hk.out; omega
          obtain ⟨c0, c1, c2, c3⟩ := blk_cells HGz.out
          have hS : G1 wz w.heap.size ⟨k, ga, gb, gc⟩ wz := ⟨c0, c1, c2, c3, hGz, Below.refl _ _⟩
          clear HO HV HT Hin Hok0 Hlen
          rcases hk12 with rfl | rfl | rfl | rfl | rfl | rfl | rfl | rfl | rfl | rfl | rfl | rfl
          · have hix : ∀ (p3 p5 p6 p7 p8 : Nat) (W : World), (Instr.index 145 (.agg #[.nilFunc, .func (.func 143) #[] #[], .func (.func 144) #[] #[], .func (.func 157) #[] #[.pointer (some ⟨p3, 0, none⟩)], .func (.func 146) #[] #[], .func (.func 157) #[] #[.pointer (some ⟨p5, 0, none⟩)], .func (.func 157) #[] #[.pointer (some ⟨p6, 0, none⟩)], .func (.func 157) #[] #[.pointer (some ⟨p7, 0, none⟩)], .func (.func 157) #[] #[.pointer (some ⟨p8, 0, none⟩)], .func (.func 147) #[] #[], .func (.func 148) #[] #[], .func (.func 149) #[] #[], .func (.func 150) #[] #[]]) (.int .i64 1)).run Tryz.prog W = .ok (.func (.func 143) #[] #[]) W := fun _ _ _ _ _ _ => by kernel_rfl
            go_region_held3 (fun w' => w'.cell? ⟨w.heap.size, 0, none⟩ = some (.int .i64 (1 : Int)) ∧ w'.cell? ⟨w.heap.size, 1, none⟩ = some (.int .i64 ga) ∧ w'.cell? ⟨w.heap.size, 2, none⟩ = some (.int .i64 gb) ∧ w'.cell? ⟨w.heap.size, 3, none⟩ = some (.int .i64 gc) ∧ w.heap.size < w'.heap.size ∧ Below wz.heap.size wz w') (first | (show G1 wz w.heap.size ⟨1, ga, gb, gc⟩ _; (with_reducible exact hS.drew)) | (show G1 wz w.heap.size ⟨1, ga, gb, gc⟩ _; exact hS.drew.below hbR) | (show G1 wz w.heap.size ⟨1, ga, gb, gc⟩ _; (with_reducible refine G1.below ?_ hbR); first | assumption | exact ⟨by assumption, by assumption, by assumption, by assumption, by assumption, by assumption⟩))
              (first | (go_at_call 134; refine (Ht.out _).mono ?_; rintro e wR ⟨⟨p3, p5, p6, p7, p8, rfl, q3, q5, q6, q7, q8⟩, hbR⟩; have Hp3 := Lib.hid q3; have Hp5 := Lib.hid q5; have Hp6 := Lib.hid q6; have Hp7 := Lib.hid q7; have Hp8 := Lib.hid q8; have HbR := Lib.hid hbR))
            all_goals go_wp2_with fail
            all_goals go_meet
            all_goals exact ⟨_, _, rfl, Lib.hid (act1 Hgin.out _), Lib.hid (show Below wz.heap.size wz _ from by have := HbR.out.size; exact Below.trans ((Below.refl _ _).drew) HbR.out)⟩
          · have hix : ∀ (p3 p5 p6 p7 p8 : Nat) (W : World), (Instr.index 145 (.agg #[.nilFunc, .func (.func 143) #[] #[], .func (.func 144) #[] #[], .func (.func 157) #[] #[.pointer (some ⟨p3, 0, none⟩)], .func (.func 146) #[] #[], .func (.func 157) #[] #[.pointer (some ⟨p5, 0, none⟩)], .func (.func 157) #[] #[.pointer (some ⟨p6, 0, none⟩)], .func (.func 157) #[] #[.pointer (some ⟨p7, 0, none⟩)], .func (.func 157) #[] #[.pointer (some ⟨p8, 0, none⟩)], .func (.func 147) #[] #[], .func (.func 148) #[] #[], .func (.func 149) #[] #[], .func (.func 150) #[] #[]]) (.int .i64 2)).run Tryz.prog W = .ok (.func (.func 144) #[] #[]) W := fun _ _ _ _ _ _ => by kernel_rfl
            go_region_held3 (fun w' => w'.cell? ⟨w.heap.size, 0, none⟩ = some (.int .i64 (2 : Int)) ∧ w'.cell? ⟨w.heap.size, 1, none⟩ = some (.int .i64 ga) ∧ w'.cell? ⟨w.heap.size, 2, none⟩ = some (.int .i64 gb) ∧ w'.cell? ⟨w.heap.size, 3, none⟩ = some (.int .i64 gc) ∧ w.heap.size < w'.heap.size ∧ Below wz.heap.size wz w') (first | (show G1 wz w.heap.size ⟨2, ga, gb, gc⟩ _; (with_reducible exact hS.drew)) | (show G1 wz w.heap.size ⟨2, ga, gb, gc⟩ _; exact hS.drew.below hbR) | (show G1 wz w.heap.size ⟨2, ga, gb, gc⟩ _; (with_reducible refine G1.below ?_ hbR); first | assumption | exact ⟨by assumption, by assumption, by assumption, by assumption, by assumption, by assumption⟩))
              (first | (go_at_call 134; refine (Ht.out _).mono ?_; rintro e wR ⟨⟨p3, p5, p6, p7, p8, rfl, q3, q5, q6, q7, q8⟩, hbR⟩; have Hp3 := Lib.hid q3; have Hp5 := Lib.hid q5; have Hp6 := Lib.hid q6; have Hp7 := Lib.hid q7; have Hp8 := Lib.hid q8; have HbR := Lib.hid hbR))
            all_goals go_wp2_with fail
            all_goals go_meet
            all_goals exact ⟨_, _, rfl, Lib.hid (act2 Hgin.out _), Lib.hid (show Below wz.heap.size wz _ from by have := HbR.out.size; exact Below.trans ((Below.refl _ _).drew) HbR.out)⟩
          · have hix : ∀ (p3 p5 p6 p7 p8 : Nat) (W : World), (Instr.index 145 (.agg #[.nilFunc, .func (.func 143) #[] #[], .func (.func 144) #[] #[], .func (.func 157) #[] #[.pointer (some ⟨p3, 0, none⟩)], .func (.func 146) #[] #[], .func (.func 157) #[] #[.pointer (some ⟨p5, 0, none⟩)], .func (.func 157) #[] #[.pointer (some ⟨p6, 0, none⟩)], .func (.func 157) #[] #[.pointer (some ⟨p7, 0, none⟩)], .func (.func 157) #[] #[.pointer (some ⟨p8, 0, none⟩)], .func (.func 147) #[] #[], .func (.func 148) #[] #[], .func (.func 149) #[] #[], .func (.func 150) #[] #[]]) (.int .i64 3)).run Tryz.prog W = .ok (.func (.func 157) #[] #[.pointer (some ⟨p3, 0, none⟩)]) W := fun _ _ _ _ _ _ => by kernel_rfl
            go_region_held3 (fun w' => w'.cell? ⟨w.heap.size, 0, none⟩ = some (.int .i64 (3 : Int)) ∧ w'.cell? ⟨w.heap.size, 1, none⟩ = some (.int .i64 ga) ∧ w'.cell? ⟨w.heap.size, 2, none⟩ = some (.int .i64 gb) ∧ w'.cell? ⟨w.heap.size, 3, none⟩ = some (.int .i64 gc) ∧ w.heap.size < w'.heap.size ∧ Below wz.heap.size wz w') (first | (show G1 wz w.heap.size ⟨3, ga, gb, gc⟩ _; (with_reducible exact hS.drew)) | (show G1 wz w.heap.size ⟨3, ga, gb, gc⟩ _; exact hS.drew.below hbR) | (show G1 wz w.heap.size ⟨3, ga, gb, gc⟩ _; (with_reducible refine G1.below ?_ hbR); first | assumption | exact ⟨by assumption, by assumption, by assumption, by assumption, by assumption, by assumption⟩))
              (first | (go_at_call 134; refine (Ht.out _).mono ?_; rintro e wR ⟨⟨p3, p5, p6, p7, p8, rfl, q3, q5, q6, q7, q8⟩, hbR⟩; have Hp3 := Lib.hid q3; have Hp5 := Lib.hid q5; have Hp6 := Lib.hid q6; have Hp7 := Lib.hid q7; have Hp8 := Lib.hid q8; have HbR := Lib.hid hbR))
            all_goals go_wp2_with fail
            all_goals go_meet
            all_goals exact ⟨_, _, rfl, Lib.hid (act3 Hgin.out _ Hp3.out), Lib.hid (show Below wz.heap.size wz _ from by have := HbR.out.size; exact Below.trans ((Below.refl _ _).drew) HbR.out)⟩
          · have hix : ∀ (p3 p5 p6 p7 p8 : Nat) (W : World), (Instr.index 145 (.agg #[.nilFunc, .func (.func 143) #[] #[], .func (.func 144) #[] #[], .func (.func 157) #[] #[.pointer (some ⟨p3, 0, none⟩)], .func (.func 146) #[] #[], .func (.func 157) #[] #[.pointer (some ⟨p5, 0, none⟩)], .func (.func 157) #[] #[.pointer (some ⟨p6, 0, none⟩)], .func (.func 157) #[] #[.pointer (some ⟨p7, 0, none⟩)], .func (.func 157) #[] #[.pointer (some ⟨p8, 0, none⟩)], .func (.func 147) #[] #[], .func (.func 148) #[] #[], .func (.func 149) #[] #[], .func (.func 150) #[] #[]]) (.int .i64 4)).run Tryz.prog W = .ok (.func (.func 146) #[] #[]) W := fun _ _ _ _ _ _ => by kernel_rfl
            go_region_held3 (fun w' => w'.cell? ⟨w.heap.size, 0, none⟩ = some (.int .i64 (4 : Int)) ∧ w'.cell? ⟨w.heap.size, 1, none⟩ = some (.int .i64 ga) ∧ w'.cell? ⟨w.heap.size, 2, none⟩ = some (.int .i64 gb) ∧ w'.cell? ⟨w.heap.size, 3, none⟩ = some (.int .i64 gc) ∧ w.heap.size < w'.heap.size ∧ Below wz.heap.size wz w') (first | (show G1 wz w.heap.size ⟨4, ga, gb, gc⟩ _; (with_reducible exact hS.drew)) | (show G1 wz w.heap.size ⟨4, ga, gb, gc⟩ _; exact hS.drew.below hbR) | (show G1 wz w.heap.size ⟨4, ga, gb, gc⟩ _; (with_reducible refine G1.below ?_ hbR); first | assumption | exact ⟨by assumption, by assumption, by assumption, by assumption, by assumption, by assumption⟩))
              (first | (go_at_call 134; refine (Ht.out _).mono ?_; rintro e wR ⟨⟨p3, p5, p6, p7, p8, rfl, q3, q5, q6, q7, q8⟩, hbR⟩; have Hp3 := Lib.hid q3; have Hp5 := Lib.hid q5; have Hp6 := Lib.hid q6; have Hp7 := Lib.hid q7; have Hp8 := Lib.hid q8; have HbR := Lib.hid hbR))
            all_goals go_wp2_with fail
            all_goals go_meet
            all_goals exact ⟨_, _, rfl, Lib.hid (act4 Hgin.out _), Lib.hid (show Below wz.heap.size wz _ from by have := HbR.out.size; exact Below.trans ((Below.refl _ _).drew) HbR.out)⟩
          · have hix : ∀ (p3 p5 p6 p7 p8 : Nat) (W : World), (Instr.index 145 (.agg #[.nilFunc, .func (.func 143) #[] #[], .func (.func 144) #[] #[], .func (.func 157) #[] #[.pointer (some ⟨p3, 0, none⟩)], .func (.func 146) #[] #[], .func (.func 157) #[] #[.pointer (some ⟨p5, 0, none⟩)], .func (.func 157) #[] #[.pointer (some ⟨p6, 0, none⟩)], .func (.func 157) #[] #[.pointer (some ⟨p7, 0, none⟩)], .func (.func 157) #[] #[.pointer (some ⟨p8, 0, none⟩)], .func (.func 147) #[] #[], .func (.func 148) #[] #[], .func (.func 149) #[] #[], .func (.func 150) #[] #[]]) (.int .i64 5)).run Tryz.prog W = .ok (.func (.func 157) #[] #[.pointer (some ⟨p5, 0, none⟩)]) W := fun _ _ _ _ _ _ => by kernel_rfl
            go_region_held3 (fun w' => w'.cell? ⟨w.heap.size, 0, none⟩ = some (.int .i64 (5 : Int)) ∧ w'.cell? ⟨w.heap.size, 1, none⟩ = some (.int .i64 ga) ∧ w'.cell? ⟨w.heap.size, 2, none⟩ = some (.int .i64 gb) ∧ w'.cell? ⟨w.heap.size, 3, none⟩ = some (.int .i64 gc) ∧ w.heap.size < w'.heap.size ∧ Below wz.heap.size wz w') (first | (show G1 wz w.heap.size ⟨5, ga, gb, gc⟩ _; (with_reducible exact hS.drew)) | (show G1 wz w.heap.size ⟨5, ga, gb, gc⟩ _; exact hS.drew.below hbR) | (show G1 wz w.heap.size ⟨5, ga, gb, gc⟩ _; (with_reducible refine G1.below ?_ hbR); first | assumption | exact ⟨by assumption, by assumption, by assumption, by assumption, by assumption, by assumption⟩))
              (first | (go_at_call 134; refine (Ht.out _).mono ?_; rintro e wR ⟨⟨p3, p5, p6, p7, p8, rfl, q3, q5, q6, q7, q8⟩, hbR⟩; have Hp3 := Lib.hid q3; have Hp5 := Lib.hid q5; have Hp6 := Lib.hid q6; have Hp7 := Lib.hid q7; have Hp8 := Lib.hid q8; have HbR := Lib.hid hbR))
            all_goals go_wp2_with fail
            all_goals go_meet
            all_goals exact ⟨_, _, rfl, Lib.hid (act5 Hgin.out _ Hp5.out), Lib.hid (show Below wz.heap.size wz _ from by have := HbR.out.size; exact Below.trans ((Below.refl _ _).drew) HbR.out)⟩
          · have hix : ∀ (p3 p5 p6 p7 p8 : Nat) (W : World), (Instr.index 145 (.agg #[.nilFunc, .func (.func 143) #[] #[], .func (.func 144) #[] #[], .func (.func 157) #[] #[.pointer (some ⟨p3, 0, none⟩)], .func (.func 146) #[] #[], .func (.func 157) #[] #[.pointer (some ⟨p5, 0, none⟩)], .func (.func 157) #[] #[.pointer (some ⟨p6, 0, none⟩)], .func (.func 157) #[] #[.pointer (some ⟨p7, 0, none⟩)], .func (.func 157) #[] #[.pointer (some ⟨p8, 0, none⟩)], .func (.func 147) #[] #[], .func (.func 148) #[] #[], .func (.func 149) #[] #[], .func (.func 150) #[] #[]]) (.int .i64 6)).run Tryz.prog W = .ok (.func (.func 157) #[] #[.pointer (some ⟨p6, 0, none⟩)]) W := fun _ _ _ _ _ _ => by kernel_rfl
            go_region_held3 (fun w' => w'.cell? ⟨w.heap.size, 0, none⟩ = some (.int .i64 (6 : Int)) ∧ w'.cell? ⟨w.heap.size, 1, none⟩ = some (.int .i64 ga) ∧ w'.cell? ⟨w.heap.size, 2, none⟩ = some (.int .i64 gb) ∧ w'.cell? ⟨w.heap.size, 3, none⟩ = some (.int .i64 gc) ∧ w.heap.size < w'.heap.size ∧ Below wz.heap.size wz w') (first | (show G1 wz w.heap.size ⟨6, ga, gb, gc⟩ _; (with_reducible exact hS.drew)) | (show G1 wz w.heap.size ⟨6, ga, gb, gc⟩ _; exact hS.drew.below hbR) | (show G1 wz w.heap.size ⟨6, ga, gb, gc⟩ _; (with_reducible refine G1.below ?_ hbR); first | assumption | exact ⟨by assumption, by assumption, by assumption, by assumption, by assumption, by assumption⟩))
              (first | (go_at_call 134; refine (Ht.out _).mono ?_; rintro e wR ⟨⟨p3, p5, p6, p7, p8, rfl, q3, q5, q6, q7, q8⟩, hbR⟩; have Hp3 := Lib.hid q3; have Hp5 := Lib.hid q5; have Hp6 := Lib.hid q6; have Hp7 := Lib.hid q7; have Hp8 := Lib.hid q8; have HbR := Lib.hid hbR))
            all_goals go_wp2_with fail
            all_goals go_meet
            all_goals exact ⟨_, _, rfl, Lib.hid (act6 Hgin.out _ Hp6.out), Lib.hid (show Below wz.heap.size wz _ from by have := HbR.out.size; exact Below.trans ((Below.refl _ _).drew) HbR.out)⟩
          · have hix : ∀ (p3 p5 p6 p7 p8 : Nat) (W : World), (Instr.index 145 (.agg #[.nilFunc, .func (.func 143) #[] #[], .func (.func 144) #[] #[], .func (.func 157) #[] #[.pointer (some ⟨p3, 0, none⟩)], .func (.func 146) #[] #[], .func (.func 157) #[] #[.pointer (some ⟨p5, 0, none⟩)], .func (.func 157) #[] #[.pointer (some ⟨p6, 0, none⟩)], .func (.func 157) #[] #[.pointer (some ⟨p7, 0, none⟩)], .func (.func 157) #[] #[.pointer (some ⟨p8, 0, none⟩)], .func (.func 147) #[] #[], .func (.func 148) #[] #[], .func (.func 149) #[] #[], .func (.func 150) #[] #[]]) (.int .i64 7)).run Tryz.prog W = .ok (.func (.func 157) #[] #[.pointer (some ⟨p7, 0, none⟩)]) W := fun _ _ _ _ _ _ => by kernel_rfl
            go_region_held3 (fun w' => w'.cell? ⟨w.heap.size, 0, none⟩ = some (.int .i64 (7 : Int)) ∧ w'.cell? ⟨w.heap.size, 1, none⟩ = some (.int .i64 ga) ∧ w'.cell? ⟨w.heap.size, 2, none⟩ = some (.int .i64 gb) ∧ w'.cell? ⟨w.heap.size, 3, none⟩ = some (.int .i64 gc) ∧ w.heap.size < w'.heap.size ∧ Below wz.heap.size wz w') (first | (show G1 wz w.heap.size ⟨7, ga, gb, gc⟩ _; (with_reducible exact hS.drew)) | (show G1 wz w.heap.size ⟨7, ga, gb, gc⟩ _; exact hS.drew.below hbR) | (show G1 wz w.heap.size ⟨7, ga, gb, gc⟩ _; (with_reducible refine G1.below ?_ hbR); first | assumption | exact ⟨by assumption, by assumption, by assumption, by assumption, by assumption, by assumption⟩))
              (first | (go_at_call 134; refine (Ht.out _).mono ?_; rintro e wR ⟨⟨p3, p5, p6, p7, p8, rfl, q3, q5, q6, q7, q8⟩, hbR⟩; have Hp3 := Lib.hid q3; have Hp5 := Lib.hid q5; have Hp6 := Lib.hid q6; have Hp7 := Lib.hid q7; have Hp8 := Lib.hid q8; have HbR := Lib.hid hbR))
            all_goals go_wp2_with fail
            all_goals go_meet
            all_goals exact ⟨_, _, rfl, Lib.hid (act7 Hgin.out _ Hp7.out), Lib.hid (show Below wz.heap.size wz _ from by have := HbR.out.size; exact Below.trans ((Below.refl _ _).drew) HbR.out)⟩
          · have hix : ∀ (p3 p5 p6 p7 p8 : Nat) (W : World), (Instr.index 145 (.agg #[.nilFunc, .func (.func 143) #[] #[], .func (.func 144) #[] #[], .func (.func 157) #[] #[.pointer (some ⟨p3, 0, none⟩)], .func (.func 146) #[] #[], .func (.func 157) #[] #[.pointer (some ⟨p5, 0, none⟩)], .func (.func 157) #[] #[.pointer (some ⟨p6, 0, none⟩)], .func (.func 157) #[] #[.pointer (some ⟨p7, 0, none⟩)], .func (.func 157) #[] #[.pointer (some ⟨p8, 0, none⟩)], .func (.func 147) #[] #[], .func (.func 148) #[] #[], .func (.func 149) #[] #[], .func (.func 150) #[] #[]]) (.int .i64 8)).run Tryz.prog W = .ok (.func (.func 157) #[] #[.pointer (some ⟨p8, 0, none⟩)]) W := fun _ _ _ _ _ _ => by kernel_rfl
            go_region_held3 (fun w' => w'.cell? ⟨w.heap.size, 0, none⟩ = some (.int .i64 (8 : Int)) ∧ w'.cell? ⟨w.heap.size, 1, none⟩ = some (.int .i64 ga) ∧ w'.cell? ⟨w.heap.size, 2, none⟩ = some (.int .i64 gb) ∧ w'.cell? ⟨w.heap.size, 3, none⟩ = some (.int .i64 gc) ∧ w.heap.size < w'.heap.size ∧ Below wz.heap.size wz w') (first | (show G1 wz w.heap.size ⟨8, ga, gb, gc⟩ _; (with_reducible exact hS.drew)) | (show G1 wz w.heap.size ⟨8, ga, gb, gc⟩ _; exact hS.drew.below hbR) | (show G1 wz w.heap.size ⟨8, ga, gb, gc⟩ _; (with_reducible refine G1.below ?_ hbR); first | assumption | exact ⟨by assumption, by assumption, by assumption, by assumption, by assumption, by assumption⟩))
              (first | (go_at_call 134; refine (Ht.out _).mono ?_; rintro e wR ⟨⟨p3, p5, p6, p7, p8, rfl, q3, q5, q6, q7, q8⟩, hbR⟩; have Hp3 := Lib.hid q3; have Hp5 := Lib.hid q5; have Hp6 := Lib.hid q6; have Hp7 := Lib.hid q7; have Hp8 := Lib.hid q8; have HbR := Lib.hid hbR))
            all_goals go_wp2_with fail
            all_goals go_meet
            all_goals exact ⟨_, _, rfl, Lib.hid (act8 Hgin.out _ Hp8.out), Lib.hid (show Below wz.heap.size wz _ from by have := HbR.out.size; exact Below.trans ((Below.refl _ _).drew) HbR.out)⟩
          · have hix : ∀ (p3 p5 p6 p7 p8 : Nat) (W : World), (Instr.index 145 (.agg #[.nilFunc, .func (.func 143) #[] #[], .func (.func 144) #[] #[], .func (.func 157) #[] #[.pointer (some ⟨p3, 0, none⟩)], .func (.func 146) #[] #[], .func (.func 157) #[] #[.pointer (some ⟨p5, 0, none⟩)], .func (.func 157) #[] #[.pointer (some ⟨p6, 0, none⟩)], .func (.func 157) #[] #[.pointer (some ⟨p7, 0, none⟩)], .func (.func 157) #[] #[.pointer (some ⟨p8, 0, none⟩)], .func (.func 147) #[] #[], .func (.func 148) #[] #[], .func (.func 149) #[] #[], .func (.func 150) #[] #[]]) (.int .i64 9)).run Tryz.prog W = .ok (.func (.func 147) #[] #[]) W := fun _ _ _ _ _ _ => by kernel_rfl
            go_region_held3 (fun w' => w'.cell? ⟨w.heap.size, 0, none⟩ = some (.int .i64 (9 : Int)) ∧ w'.cell? ⟨w.heap.size, 1, none⟩ = some (.int .i64 ga) ∧ w'.cell? ⟨w.heap.size, 2, none⟩ = some (.int .i64 gb) ∧ w'.cell? ⟨w.heap.size, 3, none⟩ = some (.int .i64 gc) ∧ w.heap.size < w'.heap.size ∧ Below wz.heap.size wz w') (first | (show G1 wz w.heap.size ⟨9, ga, gb, gc⟩ _; (with_reducible exact hS.drew)) | (show G1 wz w.heap.size ⟨9, ga, gb, gc⟩ _; exact hS.drew.below hbR) | (show G1 wz w.heap.size ⟨9, ga, gb, gc⟩ _; (with_reducible refine G1.below ?_ hbR); first | assumption | exact ⟨by assumption, by assumption, by assumption, by assumption, by assumption, by assumption⟩))
              (first | (go_at_call 134; refine (Ht.out _).mono ?_; rintro e wR ⟨⟨p3, p5, p6, p7, p8, rfl, q3, q5, q6, q7, q8⟩, hbR⟩; have Hp3 := Lib.hid q3; have Hp5 := Lib.hid q5; have Hp6 := Lib.hid q6; have Hp7 := Lib.hid q7; have Hp8 := Lib.hid q8; have HbR := Lib.hid hbR))
            all_goals go_wp2_with fail
            all_goals go_meet
            all_goals exact ⟨_, _, rfl, Lib.hid (act9 Hgin.out _), Lib.hid (show Below wz.heap.size wz _ from by have := HbR.out.size; exact Below.trans ((Below.refl _ _).drew) HbR.out)⟩
          · have hix : ∀ (p3 p5 p6 p7 p8 : Nat) (W : World), (Instr.index 145 (.agg #[.nilFunc, .func (.func 143) #[] #[], .func (.func 144) #[] #[], .func (.func 157) #[] #[.pointer (some ⟨p3, 0, none⟩)], .func (.func 146) #[] #[], .func (.func 157) #[] #[.pointer (some ⟨p5, 0, none⟩)], .func (.func 157) #[] #[.pointer (some ⟨p6, 0, none⟩)], .func (.func 157) #[] #[.pointer (some ⟨p7, 0, none⟩)], .func (.func 157) #[] #[.pointer (some ⟨p8, 0, none⟩)], .func (.func 147) #[] #[], .func (.func 148) #[] #[], .func (.func 149) #[] #[], .func (.func 150) #[] #[]]) (.int .i64 10)).run Tryz.prog W = .ok (.func (.func 148) #[] #[]) W := fun _ _ _ _ _ _ => by kernel_rfl
            go_region_held3 (fun w' => w'.cell? ⟨w.heap.size, 0, none⟩ = some (.int .i64 (10 : Int)) ∧ w'.cell? ⟨w.heap.size, 1, none⟩ = some (.int .i64 ga) ∧ w'.cell? ⟨w.heap.size, 2, none⟩ = some (.int .i64 gb) ∧ w'.cell? ⟨w.heap.size, 3, none⟩ = some (.int .i64 gc) ∧ w.heap.size < w'.heap.size ∧ Below wz.heap.size wz w') (first | (show G1 wz w.heap.size ⟨10, ga, gb, gc⟩ _; (with_reducible exact hS.drew)) | (show G1 wz w.heap.size ⟨10, ga, gb, gc⟩ _; exact hS.drew.below hbR) | (show G1 wz w.heap.size ⟨10, ga, gb, gc⟩ _; (with_reducible refine G1.below ?_ hbR); first | assumption | exact ⟨by assumption, by assumption, by assumption, by assumption, by assumption, by assumption⟩))
              (first | (go_at_call 134; refine (Ht.out _).mono ?_; rintro e wR ⟨⟨p3, p5, p6, p7, p8, rfl, q3, q5, q6, q7, q8⟩, hbR⟩; have Hp3 := Lib.hid q3; have Hp5 := Lib.hid q5; have Hp6 := Lib.hid q6; have Hp7 := Lib.hid q7; have Hp8 := Lib.hid q8; have HbR := Lib.hid hbR))
            all_goals go_wp2_with fail
            all_goals go_meet
            all_goals exact ⟨_, _, rfl, Lib.hid (act10 Hgin.out _), Lib.hid (show Below wz.heap.size wz _ from by have := HbR.out.size; exact Below.trans ((Below.refl _ _).drew) HbR.out)⟩
          · have hix : ∀ (p3 p5 p6 p7 p8 : Nat) (W : World), (Instr.index 145 (.agg #[.nilFunc, .func (.func 143) #[] #[], .func (.func 144) #[] #[], .func (.func 157) #[] #[.pointer (some ⟨p3, 0, none⟩)], .func (.func 146) #[] #[], .func (.func 157) #[] #[.pointer (some ⟨p5, 0, none⟩)], .func (.func 157) #[] #[.pointer (some ⟨p6, 0, none⟩)], .func (.func 157) #[] #[.pointer (some ⟨p7, 0, none⟩)], .func (.func 157) #[] #[.pointer (some ⟨p8, 0, none⟩)], .func (.func 147) #[] #[], .func (.func 148) #[] #[], .func (.func 149) #[] #[], .func (.func 150) #[] #[]]) (.int .i64 11)).run Tryz.prog W = .ok (.func (.func 149) #[] #[]) W := fun _ _ _ _ _ _ => by kernel_rfl
            go_region_held3 (fun w' => w'.cell? ⟨w.heap.size, 0, none⟩ = some (.int .i64 (11 : Int)) ∧ w'.cell? ⟨w.heap.size, 1, none⟩ = some (.int .i64 ga) ∧ w'.cell? ⟨w.heap.size, 2, none⟩ = some (.int .i64 gb) ∧ w'.cell? ⟨w.heap.size, 3, none⟩ = some (.int .i64 gc) ∧ w.heap.size < w'.heap.size ∧ Below wz.heap.size wz w') (first | (show G1 wz w.heap.size ⟨11, ga, gb, gc⟩ _; (with_reducible exact hS.drew)) | (show G1 wz w.heap.size ⟨11, ga, gb, gc⟩ _; exact hS.drew.below hbR) | (show G1 wz w.heap.size ⟨11, ga, gb, gc⟩ _; (with_reducible refine G1.below ?_ hbR); first | assumption | exact ⟨by assumption, by assumption, by assumption, by assumption, by assumption, by assumption⟩))
              (first | (go_at_call 134; refine (Ht.out _).mono ?_; rintro e wR ⟨⟨p3, p5, p6, p7, p8, rfl, q3, q5, q6, q7, q8⟩, hbR⟩; have Hp3 := Lib.hid q3; have Hp5 := Lib.hid q5; have Hp6 := Lib.hid q6; have Hp7 := Lib.hid q7; have Hp8 := Lib.hid q8; have HbR := Lib.hid hbR))
            all_goals go_wp2_with fail
            all_goals go_meet
            all_goals exact ⟨_, _, rfl, Lib.hid (act11 Hgin.out _), Lib.hid (show Below wz.heap.size wz _ from by have := HbR.out.size; exact Below.trans ((Below.refl _ _).drew) HbR.out)⟩
          · have hix : ∀ (p3 p5 p6 p7 p8 : Nat) (W : World), (Instr.index 145 (.agg #[.nilFunc, .func (.func 143) #[] #[], .func (.func 144) #[] #[], .func (.func 157) #[] #[.pointer (some ⟨p3, 0, none⟩)], .func (.func 146) #[] #[], .func (.func 157) #[] #[.pointer (some ⟨p5, 0, none⟩)], .func (.func 157) #[] #[.pointer (some ⟨p6, 0, none⟩)], .func (.func 157) #[] #[.pointer (some ⟨p7, 0, none⟩)], .func (.func 157) #[] #[.pointer (some ⟨p8, 0, none⟩)], .func (.func 147) #[] #[], .func (.func 148) #[] #[], .func (.func 149) #[] #[], .func (.func 150) #[] #[]]) (.int .i64 12)).run Tryz.prog W = .ok (.func (.func 150) #[] #[]) W := fun _ _ _ _ _ _ => by kernel_rfl
            go_region_held3 (fun w' => w'.cell? ⟨w.heap.size, 0, none⟩ = some (.int .i64 (12 : Int)) ∧ w'.cell? ⟨w.heap.size, 1, none⟩ = some (.int .i64 ga) ∧ w'.cell? ⟨w.heap.size, 2, none⟩ = some (.int .i64 gb) ∧ w'.cell? ⟨w.heap.size, 3, none⟩ = some (.int .i64 gc) ∧ w.heap.size < w'.heap.size ∧ Below wz.heap.size wz w') (first | (show G1 wz w.heap.size ⟨12, ga, gb, gc⟩ _; (with_reducible exact hS.drew)) | (show G1 wz w.heap.size ⟨12, ga, gb, gc⟩ _; exact hS.drew.below hbR) | (show G1 wz w.heap.size ⟨12, ga, gb, gc⟩ _; (with_reducible refine G1.below ?_ hbR); first | assumption | exact ⟨by assumption, by assumption, by assumption, by assumption, by assumption, by assumption⟩))
              (first | (go_at_call 134; refine (Ht.out _).mono ?_; rintro e wR ⟨⟨p3, p5, p6, p7, p8, rfl, q3, q5, q6, q7, q8⟩, hbR⟩; have Hp3 := Lib.hid q3; have Hp5 := Lib.hid q5; have Hp6 := Lib.hid q6; have Hp7 := Lib.hid q7; have Hp8 := Lib.hid q8; have HbR := Lib.hid hbR))
            all_goals go_wp2_with fail
            all_goals go_meet
            all_goals exact ⟨_, _, rfl, Lib.hid (act12 Hgin.out _), Lib.hid (show Below wz.heap.size wz _ from by have := HbR.out.size; exact Below.trans ((Below.refl _ _).drew) HbR.out)⟩
        case rest =>
        obtain ⟨F, C, rfl, HA, Hbx⟩ := hcut
        obtain ⟨w3, rfl⟩ : ∃ W, W = wc := ⟨_, rfl⟩
        have HG3 := Lib.hid (below_blk Hbx.out hGz HGz.out)
        have Hb3 := Lib.hid (below_up Hbz.out Hbx.out hsz)
        have hs3 := Hb3.out.size
        have hG3 := lt_of_block HG3.out
        have eF := HA.out.1
        have Hgo := Lib.hid HA.out.2
        clear HGz Hbz Hbx hGz hsz HA Hk Hgin
        generalize goesG ⟨k, ga, gb, gc⟩ = G at *
        go_wp2_with (first | (at_make; refine wpList_make_full _ rfl _ _ 59 rfl w3.heap.size 70 i0 (.agg #[.int .i64 0, .int .i64 0, .int .i64 0, .int .i64 0, .int .i64 0]) 5 Tryz.underlying59 hi hz0 hz1 .i64 .i64 l.length l.length l.length rfl rfl rfl rfl (by rw [hz2]; omega) (by unfold maxLen; omega) (Nat.le_refl _) ?_))
        intro w4 hown hgrow
        have Hb4 := Lib.hid (show Below w3.heap.size w3 w4 from (Below.refl _ _).grown hgrow (Nat.le_refl _) (fun k hk => by cases hk))
        have Hrow4 := Lib.hid (show DRow w4 w3.heap.size (List.replicate l.length .zero) by
          rcases hown.2 with ⟨h, _⟩ | ⟨g', cap', cur, hv', hb', hg', _, _, hs', ht'⟩
          · cases h
          · obtain ⟨rfl, rfl⟩ : g' = w3.heap.size ∧ cap' = l.length := by injection hv' with hv' _ hv2; injection hv' with hv'; injection hv' with hv'; exact ⟨hv'.symm, hv2.symm⟩
            exact ⟨cur, hg', by rw [List.length_replicate, ht', made_flat]⟩)
        have Hst4 := Lib.hid HO.out.symm
        clear hown hgrow HO
        go_wp2_with fail
        go_loopg [33] l.length (fun m i wr => ∃ (j : Nat) (o : List Dw), m = l.length - j ∧ j ≤ l.length ∧ i = .int .i64 j ∧ o.length = l.length ∧ Hid (∀ y ∈ o, y.ok) ∧ Hid (apO G j (l.drop j) o = O) ∧ Hid (DRow wr w3.heap.size o) ∧ Hid (Below w3.heap.size w3 wr))
        case atStart => exact ⟨0, _, rfl, Nat.zero_le _, rfl, by simp, Lib.hid rep_ok, Hst4, Hrow4, Hb4⟩
        case round =>
          obtain ⟨j, o, rfl, hj, rfl, hol, Hok, Hap, Hrow, Hb⟩ := hrel
          have hsw := Hb.out.size
          have hol3 := Hrow.out.lt
          by_cases hlt : j < l.length
          · obtain ⟨gv, rfl, _, hrow⟩ := Hr.out (by omega)
            obtain ⟨x, hx⟩ : ∃ x, l[j]? = some x := ⟨l[j], List.getElem?_eq_getElem hlt⟩
            have hgv := hrow.lt
            have hxok := Hok0.out x (List.mem_of_getElem? hx)
            have HinJ := Lib.hid (Hin.out j hlt)
            have h := (ap_step2 (G := G) (o := o) hx (fun p hp => ⟨by rw [hol]; exact (HinJ.out p hp).1, (HinJ.out p hp).2⟩) Hok.out).symm.trans Hap.out
            have Hn := Lib.hid h
            obtain ⟨d0, d1, d2, d3, d4⟩ := (hrow.below (Hb3.out.trans (Hb.out.mono hs3)) hgv).cells hx
            have hgvl : gv < wr.heap.size := by omega
            have HG := Lib.hid (below_blk Hb.out hG3 HG3.out)
            obtain ⟨e0, e1, e2, e3⟩ := blk_cells HG.out
            have heg := lt_of_block HG.out
            have Hb4' := Lib.hid (show Below w3.heap.size w3 (wr.alloc (.cells #[.int .i64 x.n.a, .int .i64 x.n.b, .int .i64 x.n.c, .int .i64 x.n.d, .int .i64 x.e] 70)) from Hb.out.alloc hsw _)
            have Hg5 := Lib.hid (Hgo.out _ Hb4'.out j (by omega))
            have HX := Lib.hid (heap_alloc_new wr (.cells #[.int .i64 x.n.a, .int .i64 x.n.b, .int .i64 x.n.c, .int .i64 x.n.d, .int .i64 x.e] 70))
            have Hrow' := Lib.hid (Hrow.out.alloc (.cells #[.int .i64 x.n.a, .int .i64 x.n.b, .int .i64 x.n.c, .int .i64 x.n.d, .int .i64 x.e] 70))
            clear h hx hrow Hrow Hb
            have hLl := Hlen.out j
            generalize G j = L at *
            go_wp2_with fail
            refine (Hg5.out).mono ?_
            rintro e w5 ⟨vL, rfl, hdL, hb5⟩
            have hza : (wr.alloc (.cells #[.int .i64 x.n.a, .int .i64 x.n.b, .int .i64 x.n.c, .int .i64 x.n.d, .int .i64 x.e] 70)).heap.size = wr.heap.size + 1 := by simp
            have HdL := Lib.hid hdL
            have Hrow5 := Lib.hid (Hrow'.out.below hb5 (by omega))
            have HX5 := Lib.hid (below_blk hb5 (by omega) HX.out)
            have Hb5 := Lib.hid (below_up Hb4'.out hb5 (by omega))
            have hs5 := hb5.size
            obtain ⟨gx, hgx⟩ : ∃ gx, gx = wr.heap.size := ⟨_, rfl⟩
            rw [← hgx] at HX5 ⊢
            have Hgx := Lib.hid (show w3.heap.size < gx by omega)
            have hLb : w3.heap.size + 1 ≤ (wr.alloc (.cells #[.int .i64 x.n.a, .int .i64 x.n.b, .int .i64 x.n.c, .int .i64 x.n.d, .int .i64 x.e] 70)).heap.size := by omega
            obtain ⟨aL, capL, rfl, hcL, -⟩ := hdL
            have HdL := Lib.hid (HdL.out.mono hLb)
            clear hb5 HG e0 e1 e2 e3 d0 d1 d2 d3 d4 Hg5 hza hgx HX Hrow' Hb4' heg hgvl hsw hol3 hs5 hLb
            go_wp2_with fail
            go_loopg [43] L.length (fun m i ws => ∃ (k : Nat) (o' : List Dw), m = L.length - k ∧ k ≤ L.length ∧ i = .int .i64 k ∧ o'.length = l.length ∧ Hid (∀ y ∈ o', y.ok) ∧ Hid (sendO x (L.drop k) o' = sendO x L o) ∧ Hid (DRow ws w3.heap.size o') ∧ Hid (contE.Sl ws (w3.heap.size + 1) (.slice aL L.length capL) L) ∧ Hid (ws.heap[gx]? = some (.cells #[.int .i64 x.n.a, .int .i64 x.n.b, .int .i64 x.n.c, .int .i64 x.n.d, .int .i64 x.e] 70 (0, 0))) ∧ Hid (Below w3.heap.size w3 ws))
            case atStart => exact ⟨0, o, rfl, Nat.zero_le _, rfl, hol, Hok, Lib.hid rfl, Hrow5, HdL, HX5, Hb5⟩
            case round =>
              obtain ⟨k', o', rfl, hk, rfl, hol', Hok', Hse, Hrow, HdL, HX, Hb⟩ := hrel
              have hsw2 := Hb.out.size
              have hol2 := Hrow.out.lt
              by_cases hkl : k' < L.length
              · obtain ⟨p, hp⟩ : ∃ p, L[k']? = some p := ⟨L[k'], List.getElem?_eq_getElem hkl⟩
                have hpin := (HinJ.out p (List.mem_of_getElem? hp)).1
                have hpok := (HinJ.out p (List.mem_of_getElem? hp)).2
                obtain ⟨aL', capL', e, hcL', hrL⟩ := HdL.out
                injection e with e1 _ e3
                subst e1 e3
                obtain ⟨gs, rfl, hgs, hsrow⟩ := hrL (by omega)
                have hgsl := hsrow.lt
                obtain ⟨u, hu⟩ : ∃ u, o'[p.1]? = some u := ⟨o'[p.1]'(by omega), List.getElem?_eq_getElem _⟩
                have hud : o'.getD p.1 .zero = u := by rw [List.getD_eq_getElem?_getD, hu]; rfl
                have huok := Hok'.out u (List.mem_of_getElem? hu)
                have Hstep := Lib.hid (am_step (x := x) (o := o') hp hud)
                have Ham := Lib.hid (fun W => iaddM u x p.2 W (ok_eb huok) (ok_eb hxok) (ok_eb hpok))
                have Hzok := Lib.hid (fun h => am_ok (u := u) (x := x) (y := p.2) h)
                obtain ⟨s0, s1, s2, s3, s4, s5⟩ := CRow.cells hsrow hp
                have hpl : p.1 < l.length := hpin
                have hlr := Hrow.out
                obtain ⟨at', y⟩ := p
                simp only [] at hpl Hstep Ham Hzok s0 s1 s2 s3 s4 s5 hu
                have HPB := Lib.hid (heap_alloc_new wr (.cells #[.int .i64 (at' : Int), .int .i64 y.n.a, .int .i64 y.n.b, .int .i64 y.n.c, .int .i64 y.n.d, .int .i64 y.e] 149))
                have HR2 := Lib.hid (Hrow.out.alloc (.cells #[.int .i64 (at' : Int), .int .i64 y.n.a, .int .i64 y.n.b, .int .i64 y.n.c, .int .i64 y.n.d, .int .i64 y.e] 149))
                have HX2 := Lib.hid (alloc_blk (.cells #[.int .i64 (at' : Int), .int .i64 y.n.a, .int .i64 y.n.b, .int .i64 y.n.c, .int .i64 y.n.d, .int .i64 y.e] 149) HX.out)
                have Hb2 := Lib.hid (show Below w3.heap.size w3 (wr.alloc (.cells #[.int .i64 (at' : Int), .int .i64 y.n.a, .int .i64 y.n.b, .int .i64 y.n.c, .int .i64 y.n.d, .int .i64 y.e] 149)) from Hb.out.alloc hsw2 _)
                have HdL2 := Lib.hid (show contE.Sl (wr.alloc (.cells #[.int .i64 (at' : Int), .int .i64 y.n.a, .int .i64 y.n.b, .int .i64 y.n.c, .int .i64 y.n.d, .int .i64 y.e] 149)) (w3.heap.size + 1) (.slice (some ⟨gs, 0, none⟩) L.length capL) L from HdL.out.below ((Below.refl _ _).alloc (Nat.le_refl _) _))
                obtain ⟨u0, u1, u2, u3, u4⟩ := HR2.out.cells hu
                obtain ⟨x0, x1, x2, x3, x4⟩ := blk_cells5 HX2.out
                obtain ⟨q0, q1, q2, q3, q4, q5⟩ := blk_cells6 HPB.out
                have hzp : (wr.alloc (.cells #[.int .i64 (at' : Int), .int .i64 y.n.a, .int .i64 y.n.b, .int .i64 y.n.c, .int .i64 y.n.d, .int .i64 y.e] 149)).heap.size = wr.heap.size + 1 := by simp
                have hol4 := HR2.out.lt
                have hxl := lt_of_block HX2.out
                have hpb := lt_of_block HPB.out
                have hgp : w3.heap.size < wr.heap.size := hol2
                clear hp hrL hsrow hu hud huok HdL hlr hpok hpin Hrow HX Hb hcL' hsw2
                generalize amV u x y = f at *
                generalize amB u x y = t2 at *
                go_upto_region 11 with fail
                have Hzp := Lib.hid hzp
                clear s0 s1 s2 s3 s4 s5 hzp hgsl
                obtain ⟨gp, hgp'⟩ : ∃ gp, gp = wr.heap.size := ⟨_, rfl⟩
                rw [← hgp'] at HPB Hzp hgp hpb q0 q1 q2 q3 q4 q5 ⊢
                clear hgp'
                generalize wr.alloc (.cells #[.int .i64 (at' : Int), .int .i64 y.n.a, .int .i64 y.n.b, .int .i64 y.n.c, .int .i64 y.n.d, .int .i64 y.e] 149) = w2 at *
                have hsw2 := Hb2.out.size
                go_cut [12, 13] from 47 to 58 (fun s12 s13 wx => ∃ q, s12 = .pointer (some ⟨q, 0, none⟩) ∧ s13 = .bool t2 ∧ wx.cell? ⟨q, 0, none⟩ = some (.int .i64 f.n.a) ∧ wx.cell? ⟨q, 1, none⟩ = some (.int .i64 f.n.b) ∧ wx.cell? ⟨q, 2, none⟩ = some (.int .i64 f.n.c) ∧ wx.cell? ⟨q, 3, none⟩ = some (.int .i64 f.n.d) ∧ wx.cell? ⟨q, 4, none⟩ = some (.int .i64 f.e) ∧ Hid (Below w2.heap.size w2 wx))
                case first =>
                  have hS : H16 w2 w3.heap.size (at' * 5) u gx x gp at' y w2 := ⟨u0, u1, u2, u3, u4, x0, x1, x2, x3, x4, q0, q1, q2, q3, q4, q5, hol4, hxl, hpb, Below.refl _ _⟩
                  have hq : w2.heap.size ≤ w2.heap.size := Nat.le_refl _
                  have hn : w3.heap.size < w2.heap.size ∧ gx < w2.heap.size ∧ gp < w2.heap.size := ⟨hol4, hxl, hpb⟩
                  have hw : w2.heap.size ≤ w2.heap.size := Nat.le_refl _
                  go_region_held3 (fun w' => w'.cell? ⟨w3.heap.size, (at' * 5), none⟩ = some (.int .i64 u.n.a) ∧ w'.cell? ⟨w3.heap.size, (at' * 5) + 1, none⟩ = some (.int .i64 u.n.b) ∧ w'.cell? ⟨w3.heap.size, (at' * 5) + 2, none⟩ = some (.int .i64 u.n.c) ∧ w'.cell? ⟨w3.heap.size, (at' * 5) + 3, none⟩ = some (.int .i64 u.n.d) ∧ w'.cell? ⟨w3.heap.size, (at' * 5) + 4, none⟩ = some (.int .i64 u.e) ∧ w'.cell? ⟨gx, 0, none⟩ = some (.int .i64 x.n.a) ∧ w'.cell? ⟨gx, 1, none⟩ = some (.int .i64 x.n.b) ∧ w'.cell? ⟨gx, 2, none⟩ = some (.int .i64 x.n.c) ∧ w'.cell? ⟨gx, 3, none⟩ = some (.int .i64 x.n.d) ∧ w'.cell? ⟨gx, 4, none⟩ = some (.int .i64 x.e) ∧ w'.cell? ⟨gp, 0, none⟩ = some (.int .i64 (at' : Int)) ∧ w'.cell? ⟨gp, 1, none⟩ = some (.int .i64 y.n.a) ∧ w'.cell? ⟨gp, 2, none⟩ = some (.int .i64 y.n.b) ∧ w'.cell? ⟨gp, 3, none⟩ = some (.int .i64 y.n.c) ∧ w'.cell? ⟨gp, 4, none⟩ = some (.int .i64 y.n.d) ∧ w'.cell? ⟨gp, 5, none⟩ = some (.int .i64 y.e) ∧ w3.heap.size < w'.heap.size ∧ gx < w'.heap.size ∧ gp < w'.heap.size ∧ Below w2.heap.size w2 w') (first | (show H16 w2 w3.heap.size (at' * 5) u gx x gp at' y _; (with_reducible exact hS.drew)) | (show H16 w2 w3.heap.size (at' * 5) u gx x gp at' y _; (with_reducible exact (hS.alloc _).drew)) | (show H16 w2 w3.heap.size (at' * 5) u gx x gp at' y _; (with_reducible refine H16.below ?_ hbR); first | assumption | exact ⟨by assumption, by assumption, by assumption, by assumption, by assumption, by assumption, by assumption, by assumption, by assumption, by assumption, by assumption, by assumption, by assumption, by assumption, by assumption, by assumption, by assumption, by assumption, by assumption, by assumption⟩) | (show H16 w2 w3.heap.size (at' * 5) u gx x gp at' y _; (with_reducible refine H16.alloc ?_ _); first | assumption | exact ⟨by assumption, by assumption, by assumption, by assumption, by assumption, by assumption, by assumption, by assumption, by assumption, by assumption, by assumption, by assumption, by assumption, by assumption, by assumption, by assumption, by assumption, by assumption, by assumption, by assumption⟩) | (show H16 w2 w3.heap.size (at' * 5) u gx x gp at' y _; (with_reducible refine H16.realloc (o := .cells #[.int .i64 0, .int .i64 0, .int .i64 0, .int .i64 0, .int .i64 0] 70) ?_ hq hn hw); first | assumption | exact ⟨by assumption, by assumption, by assumption, by assumption, by assumption, by assumption, by assumption, by assumption, by assumption, by assumption, by assumption, by assumption, by assumption, by assumption, by assumption, by assumption, by assumption, by assumption, by assumption, by assumption⟩) | (show H16 w2 w3.heap.size (at' * 5) u gx x gp at' y _; (with_reducible refine H16.set5 (lim := w2.heap.size) ?_ ?_ hn hw); (first | assumption | exact ⟨by assumption, by assumption, by assumption, by assumption, by assumption, by assumption, by assumption, by assumption, by assumption, by assumption, by assumption, by assumption, by assumption, by assumption, by assumption, by assumption, by assumption, by assumption, by assumption, by assumption⟩); (first | assumption | exact Nat.le_refl _)))
                    (first | (go_at_call 135; (first | (with_reducible refine (Ham.out _).mono ?_)); rintro e wR ⟨rfl, hbR⟩; (first | (have hq := Nat.le_trans hq hbR.size) | (have hq : w2.heap.size ≤ wR.heap.size := by have := hbR.size; simpa using this) | (have hq : w2.heap.size ≤ wR.heap.size := by have := hbR.size; simp at this; exact Nat.le_of_succ_le this) | (have hq := Nat.le_trans hq (Nat.le_of_succ_le (by have := hbR.size; simpa using this)))); obtain ⟨hcR, hfR, hzR⟩ := bgrow hbR; (first | (have zg := hzR _ zg) | (have zg := hzR _ (lt_alloc _ _); try simp at zg) | skip)))
                  all_goals go_wp2_with fail
                  all_goals go_meet
                  all_goals refine ⟨_, rfl, rfl, ?_, ?_, ?_, ?_, ?_, H16.low (go := w3.heap.size) (po := at' * 5) (u := u) (gx := gx) (x := x) (gp := gp) (p := at') (y := y) (by assumption)⟩
                  all_goals (simp [*, go_sem]; done)
                case rest =>
                obtain ⟨r, rfl, rfl, m0, m1, m2, m3, m4, Hby⟩ := hcut
                have Hrow7 := Lib.hid (HR2.out.below Hby.out hol4)
                have HX7 := Lib.hid (below_blk Hby.out hxl HX2.out)
                have HdL7 := Lib.hid (HdL2.out.below Hby.out)
                have Hb7 := Lib.hid (below_up Hb2.out Hby.out hsw2)
                have hsw7 := Hb7.out.size
                have hrl := World.block_lt_of_cell? _ _ m0
                have b0 := cell_below q0 Hby.out hpb
                have hbp : gp < wc.heap.size := Nat.lt_of_lt_of_le hpb Hby.out.size
                obtain ⟨v0, v1, v2, v3, v4⟩ : wc.cell? ⟨w3.heap.size, at' * 5, none⟩ = some (.int .i64 u.n.a) ∧ wc.cell? ⟨w3.heap.size, at' * 5 + 1, none⟩ = some (.int .i64 u.n.b) ∧ wc.cell? ⟨w3.heap.size, at' * 5 + 2, none⟩ = some (.int .i64 u.n.c) ∧ wc.cell? ⟨w3.heap.size, at' * 5 + 3, none⟩ = some (.int .i64 u.n.d) ∧ wc.cell? ⟨w3.heap.size, at' * 5 + 4, none⟩ = some (.int .i64 u.e) := ⟨cell_below u0 Hby.out hol4, cell_below u1 Hby.out hol4, cell_below u2 Hby.out hol4, cell_below u3 Hby.out hol4, cell_below u4 Hby.out hol4⟩
                have ho7 := Hrow7.out.lt
                have fO := fun o => Hrow7.out.free o
                clear u0 u1 u2 u3 u4 x0 x1 x2 x3 x4 q0 q1 q2 q3 q4 q5 HR2 HX2 Hb2 Hby Ham HdL2 HPB hol4 hxl hpb
                cases t2 with
                | true =>
                  have h := Hstep.out.symm.trans Hse.out
                  rw [if_pos rfl] at h
                  have Hse2 := Lib.hid h
                  have Hok2 := Lib.hid (set_ok (p := at') Hok'.out (Hzok.out rfl))
                  have Hput := Lib.hid (Hrow7.out.put at' (by omega) f)
                  have Hsl := Lib.hid (show contE.Sl (((((wc.setCell ⟨w3.heap.size, at' * 5, none⟩ (.int .i64 f.n.a)).setCell ⟨w3.heap.size, at' * 5 + 1, none⟩ (.int .i64 f.n.b)).setCell ⟨w3.heap.size, at' * 5 + 2, none⟩ (.int .i64 f.n.c)).setCell ⟨w3.heap.size, at' * 5 + 3, none⟩ (.int .i64 f.n.d)).setCell ⟨w3.heap.size, at' * 5 + 4, none⟩ (.int .i64 f.e)) (w3.heap.size + 1) (.slice (some ⟨gs, 0, none⟩) L.length capL) L from HdL7.out.block fun g hg _ => set5_off (by omega))
                  have HXs := Lib.hid (show (((((wc.setCell ⟨w3.heap.size, at' * 5, none⟩ (.int .i64 f.n.a)).setCell ⟨w3.heap.size, at' * 5 + 1, none⟩ (.int .i64 f.n.b)).setCell ⟨w3.heap.size, at' * 5 + 2, none⟩ (.int .i64 f.n.c)).setCell ⟨w3.heap.size, at' * 5 + 3, none⟩ (.int .i64 f.n.d)).setCell ⟨w3.heap.size, at' * 5 + 4, none⟩ (.int .i64 f.e)).heap[gx]? = some (.cells #[.int .i64 x.n.a, .int .i64 x.n.b, .int .i64 x.n.c, .int .i64 x.n.d, .int .i64 x.e] 70 (0, 0)) from (set5_off (by have := Hgx.out; omega)).trans HX7.out)
                  have HBs := Lib.hid (show Below w3.heap.size w3 (((((wc.setCell ⟨w3.heap.size, at' * 5, none⟩ (.int .i64 f.n.a)).setCell ⟨w3.heap.size, at' * 5 + 1, none⟩ (.int .i64 f.n.b)).setCell ⟨w3.heap.size, at' * 5 + 2, none⟩ (.int .i64 f.n.c)).setCell ⟨w3.heap.size, at' * 5 + 3, none⟩ (.int .i64 f.n.d)).setCell ⟨w3.heap.size, at' * 5 + 4, none⟩ (.int .i64 f.e)) by have := Hb7.out; go_grown)
                  clear h Hstep HX7 HdL7
                  go_wp2_with fail
                  go_roundg (L.length - (k' + 1))
                  case measure => omega
                  case rel => exact ⟨k' + 1, o'.set at' f, rfl, by omega, by go_num, by simpa using hol', Hok2, Hse2, Hput, Hsl, HXs, HBs⟩
                | false =>
                  have h := Hstep.out.symm.trans Hse.out
                  simp only [Bool.false_eq_true, if_false] at h
                  have hO := Hn.out
                  rw [← h] at hO
                  obtain rfl : V = [] := HV.out.trans (by rw [← hO]; rfl)
                  obtain rfl : T = false := HT.out.trans (by rw [← hO]; rfl)
                  clear h hO
                  have Hb8 := Lib.hid (Hb3.out.trans (Hb7.out.mono hs3))
                  go_wp2_with fail
                  go_returns
                  exact ⟨⟨_, rfl, DSl.nil⟩, by have := Hb8.out; go_grown⟩
              · obtain rfl : k' = L.length := by omega
                have h := Hse.out
                rw [List.drop_of_length_le (Nat.le_refl _)] at h
                have hO := Hn.out
                rw [← h] at hO
                have HO2 := Lib.hid (show apO G (j + 1) (l.drop (j + 1)) o' = O from hO)
                clear h hO
                go_wp2_with fail
                go_roundg (l.length - (j + 1))
                case measure => omega
                case rel => exact ⟨j + 1, o', rfl, by omega, by go_num, hol', Hok', HO2, Hrow, Hb⟩
          · obtain rfl : j = l.length := by omega
            have hO := Hap.out
            rw [List.drop_of_length_le (Nat.le_refl _)] at hO
            obtain rfl : V = o := HV.out.trans (by rw [← hO]; rfl)
            obtain rfl : T = true := HT.out.trans (by rw [← hO]; rfl)
            have HD := Lib.hid (show DSl wr w.heap.size (.slice (some ⟨w3.heap.size, 0, none⟩) l.length l.length) V from by rw [← hol]; exact ⟨_, _, rfl, Nat.le_refl _, fun _ => ⟨_, rfl, hs3, Hrow.out⟩⟩)
            have Hb8 := Lib.hid (Hb3.out.trans (Hb.out.mono hs3))
            clear hO
            go_wp2_with fail
            go_returns
            exact ⟨⟨_, rfl, HD.out⟩, Hb8.out⟩
      · exact AllReadyH.nil
    · exact AllReadyH.nil
  · exact AllReadyH.nil
theorem iapG (B : Nat) (g : Gt) (v : Value) (l : List Dw) (w : World) (hv : DSl w B v l) (he : Eb l) (hm : l.length ≤ 1048576) : Calls Tryz.prog 115 #[(.agg #[.int .i64 g.k, .int .i64 g.a, .int .i64 g.b, .int .i64 g.c]), v] w fun e w' => (∃ r, e = .returned (.tuple #[r, .bool (agB g l)]) ∧ DSl w' w.heap.size r (agV g l)) ∧ Below w.heap.size w w' := by
  obtain ⟨k, ga, gb, gc⟩ := g
  cases hst : stB l with
  | false =>
    have h := agO_no (g := ⟨k, ga, gb, gc⟩) (l := l) (by unfold agO; rw [hst]; rfl)
    rw [h.1, h.2]; exact iapG_no0 B k ga gb gc v l w hv he hm hst
  | true =>
    cases hg : gtB ⟨k, ga, gb, gc⟩ (qc l.length) with
    | false =>
      have h := agO_no (g := ⟨k, ga, gb, gc⟩) (l := l) (by unfold agO; rw [hst, hg]; rfl)
      rw [h.1, h.2]; exact iapG_no1 B k ga gb gc v l w hv he hm hst hg
    | true => exact iapG_yes B k ga gb gc v l w hv hst hg
end Go.Proofs.YtlmiebeffdcfhaaGreat
