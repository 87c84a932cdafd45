/- The model's ApplyGate where the gate fits the state. -/
import Derived.Test.YtlmiebeffdcfhaaGreatUBaseC04
import Derived.Test.YtlmiebeffdcfhaaGreatUBaseB12
namespace Go.Proofs.YtlmiebeffdcfhaaGreat
open Go.RowKit
theorem SRow.cells {w : World} {g : Nat} {l : List (Nat × Dw)} (h : sentE.Row w g l) {j : Nat} {p : Nat × Dw} (hx : l[j]? = some p) :
    w.cell? ⟨g, j * 6, none⟩ = some (.int .i64 (p.1 : Int)) ∧ w.cell? ⟨g, j * 6 + 1, none⟩ = some (.int .i64 p.2.n.a) ∧ w.cell? ⟨g, j * 6 + 2, none⟩ = some (.int .i64 p.2.n.b) ∧ w.cell? ⟨g, j * 6 + 3, none⟩ = some (.int .i64 p.2.n.c) ∧ w.cell? ⟨g, j * 6 + 4, none⟩ = some (.int .i64 p.2.n.d) ∧ w.cell? ⟨g, j * 6 + 5, none⟩ = some (.int .i64 p.2.e) :=
  ⟨h.at hx (k := 0) rfl, h.at hx (k := 1) rfl, h.at hx (k := 2) rfl, h.at hx (k := 3) rfl, h.at hx (k := 4) rfl, h.at hx (k := 5) rfl⟩
theorem rep_ok {n : Nat} : ∀ y ∈ List.replicate n Dw.zero, y.ok := fun y hy => by rw [List.eq_of_mem_replicate hy]; exact zero_ok
theorem set_ok {o : List Dw} {p : Nat} {z : Dw} (h : ∀ y ∈ o, y.ok) (hz : z.ok) : ∀ y ∈ o.set p z, y.ok := fun y hy => by
  rcases List.mem_or_eq_of_mem_set hy with h1 | rfl
  · exact h y h1
  · exact hz
def H12 (w : World) (gv ov : Nat) (x : Dw) (gs os p : Nat) (y : Dw) (w' : World) : Prop := w'.cell? ⟨gv, ov, none⟩ = some (.int .i64 x.n.a) ∧ w'.cell? ⟨gv, ov + 1, none⟩ = some (.int .i64 x.n.b) ∧ w'.cell? ⟨gv, ov + 2, none⟩ = some (.int .i64 x.n.c) ∧ w'.cell? ⟨gv, ov + 3, none⟩ = some (.int .i64 x.n.d) ∧ w'.cell? ⟨gv, ov + 4, none⟩ = some (.int .i64 x.e) ∧ w'.cell? ⟨gs, os, none⟩ = some (.int .i64 (p : Int)) ∧ w'.cell? ⟨gs, os + 1, none⟩ = some (.int .i64 y.n.a) ∧ w'.cell? ⟨gs, os + 2, none⟩ = some (.int .i64 y.n.b) ∧ w'.cell? ⟨gs, os + 3, none⟩ = some (.int .i64 y.n.c) ∧ w'.cell? ⟨gs, os + 4, none⟩ = some (.int .i64 y.n.d) ∧ w'.cell? ⟨gs, os + 5, none⟩ = some (.int .i64 y.e) ∧ gv < w'.heap.size ∧ gs < w'.heap.size ∧ Below w.heap.size w w'
theorem H12.drew {w w1 : World} {gv ov : Nat} {x : Dw} {gs os p : Nat} {y : Dw} (h : H12 w gv ov x gs os p y w1) : H12 w gv ov x gs os p y w1.drew :=
  let ⟨c0, c1, c2, c3, c4, c5, c6, c7, c8, c9, c10, z0, z1, l⟩ := h; ⟨c0, c1, c2, c3, c4, c5, c6, c7, c8, c9, c10, z0, z1, l.drew⟩
theorem H12.below {w w1 w2 : World} {gv ov : Nat} {x : Dw} {gs os p : Nat} {y : Dw} (h : H12 w gv ov x gs os p y w1) (hb : Below w1.heap.size w1 w2) : H12 w gv ov x gs os p y w2 :=
  let ⟨c0, c1, c2, c3, c4, c5, c6, c7, c8, c9, c10, z0, z1, l⟩ := h
  ⟨cell_below c0 hb z0, cell_below c1 hb z0, cell_below c2 hb z0, cell_below c3 hb z0, cell_below c4 hb z0, cell_below c5 hb z1, cell_below c6 hb z1, cell_below c7 hb z1, cell_below c8 hb z1, cell_below c9 hb z1, cell_below c10 hb z1, Nat.lt_of_lt_of_le z0 hb.size, Nat.lt_of_lt_of_le z1 hb.size, below_up l hb l.size⟩
theorem H12.alloc {w w1 : World} {gv ov : Nat} {x : Dw} {gs os p : Nat} {y : Dw} (h : H12 w gv ov x gs os p y w1) (o : Obj) : H12 w gv ov x gs os p y (w1.alloc o) := h.below ((Below.refl _ _).alloc (Nat.le_refl _) o)
theorem H12.realloc {w W : World} {gv ov : Nat} {x : Dw} {gs os p : Nat} {y : Dw} {lim : Nat} {o o' : Obj} (h : H12 w gv ov x gs os p y (W.alloc o)) (hq : lim ≤ W.heap.size) (hn : gv < lim ∧ gs < lim) (hw : w.heap.size ≤ lim) : H12 w gv ov x gs os p y (W.alloc o') :=
  let ⟨c0, c1, c2, c3, c4, c5, c6, c7, c8, c9, c10, _, _, l⟩ := h
  ⟨cell_realloc c0 (by omega), cell_realloc c1 (by omega), cell_realloc c2 (by omega), cell_realloc c3 (by omega), cell_realloc c4 (by omega), cell_realloc c5 (by omega), cell_realloc c6 (by omega), cell_realloc c7 (by omega), cell_realloc c8 (by omega), cell_realloc c9 (by omega), cell_realloc c10 (by omega), (by simp; omega), (by simp; omega), below_realloc l (by omega) (by omega)⟩
theorem H12.set5 {w W : World} {gv ov : Nat} {x : Dw} {gs os p : Nat} {y : Dw} {lim k : Nat} {u0 u1 u2 u3 u4 : Value} (h : H12 w gv ov x gs os p y W) (hq : lim ≤ k) (hn : gv < lim ∧ gs < lim) (hw : w.heap.size ≤ lim) : H12 w gv ov x gs os p y (((((W.setCell ⟨k, 0, none⟩ u0).setCell ⟨k, 1, none⟩ u1).setCell ⟨k, 2, none⟩ u2).setCell ⟨k, 3, none⟩ u3).setCell ⟨k, 4, none⟩ u4) :=
  let ⟨c0, c1, c2, c3, c4, c5, c6, c7, c8, c9, c10, z0, z1, l⟩ := h
  ⟨cell_far5 c0 (by omega), cell_far5 c1 (by omega), cell_far5 c2 (by omega), cell_far5 c3 (by omega), cell_far5 c4 (by omega), cell_far5 c5 (by omega), cell_far5 c6 (by omega), cell_far5 c7 (by omega), cell_far5 c8 (by omega), cell_far5 c9 (by omega), cell_far5 c10 (by omega), (by simpa [World.setCell] using z0), (by simpa [World.setCell] using z1), ((((l.setCell (p := ⟨k, 0, none⟩) (Nat.le_trans hw hq) _).setCell (p := ⟨k, 1, none⟩) (Nat.le_trans hw hq) _).setCell (p := ⟨k, 2, none⟩) (Nat.le_trans hw hq) _).setCell (p := ⟨k, 3, none⟩) (Nat.le_trans hw hq) _).setCell (p := ⟨k, 4, none⟩) (Nat.le_trans hw hq) _⟩
theorem H12.low {w w1 : World} {gv ov : Nat} {x : Dw} {gs os p : Nat} {y : Dw} (h : H12 w gv ov x gs os p y w1) : Below w.heap.size w w1 := let ⟨_, _, _, _, _, _, _, _, _, _, _, _, _, l⟩ := h; l
def H13 (w : World) (go po : Nat) (u : Dw) (gs os p : Nat) (q : Nat) (z : Dw) (w' : World) : Prop := w'.cell? ⟨go, po, none⟩ = some (.int .i64 u.n.a) ∧ w'.cell? ⟨go, po + 1, none⟩ = some (.int .i64 u.n.b) ∧ w'.cell? ⟨go, po + 2, none⟩ = some (.int .i64 u.n.c) ∧ w'.cell? ⟨go, po + 3, none⟩ = some (.int .i64 u.n.d) ∧ w'.cell? ⟨go, po + 4, none⟩ = some (.int .i64 u.e) ∧ w'.cell? ⟨gs, os, none⟩ = some (.int .i64 (p : Int)) ∧ w'.cell? ⟨q, 0, none⟩ = some (.int .i64 z.n.a) ∧ w'.cell? ⟨q, 1, none⟩ = some (.int .i64 z.n.b) ∧ w'.cell? ⟨q, 2, none⟩ = some (.int .i64 z.n.c) ∧ w'.cell? ⟨q, 3, none⟩ = some (.int .i64 z.n.d) ∧ w'.cell? ⟨q, 4, none⟩ = some (.int .i64 z.e) ∧ go < w'.heap.size ∧ gs < w'.heap.size ∧ q < w'.heap.size ∧ Below w.heap.size w w'
theorem H13.drew {w w1 : World} {go po : Nat} {u : Dw} {gs os p : Nat} {q : Nat} {z : Dw} (h : H13 w go po u gs os p q z w1) : H13 w go po u gs os p q z w1.drew :=
  let ⟨c0, c1, c2, c3, c4, c5, c6, c7, c8, c9, c10, z0, z1, z2, l⟩ := h; ⟨c0, c1, c2, c3, c4, c5, c6, c7, c8, c9, c10, z0, z1, z2, l.drew⟩
theorem H13.below {w w1 w2 : World} {go po : Nat} {u : Dw} {gs os p : Nat} {q : Nat} {z : Dw} (h : H13 w go po u gs os p q z w1) (hb : Below w1.heap.size w1 w2) : H13 w go po u gs os p q z w2 :=
  let ⟨c0, c1, c2, c3, c4, c5, c6, c7, c8, c9, c10, z0, z1, z2, l⟩ := h
  ⟨cell_below c0 hb z0, cell_below c1 hb z0, cell_below c2 hb z0, cell_below c3 hb z0, cell_below c4 hb z0, cell_below c5 hb z1, cell_below c6 hb z2, cell_below c7 hb z2, cell_below c8 hb z2, cell_below c9 hb z2, cell_below c10 hb z2, Nat.lt_of_lt_of_le z0 hb.size, Nat.lt_of_lt_of_le z1 hb.size, Nat.lt_of_lt_of_le z2 hb.size, below_up l hb l.size⟩
theorem H13.alloc {w w1 : World} {go po : Nat} {u : Dw} {gs os p : Nat} {q : Nat} {z : Dw} (h : H13 w go po u gs os p q z w1) (o : Obj) : H13 w go po u gs os p q z (w1.alloc o) := h.below ((Below.refl _ _).alloc (Nat.le_refl _) o)
theorem H13.realloc {w W : World} {go po : Nat} {u : Dw} {gs os p : Nat} {q : Nat} {z : Dw} {lim : Nat} {o o' : Obj} (h : H13 w go po u gs os p q z (W.alloc o)) (hq : lim ≤ W.heap.size) (hn : go < lim ∧ gs < lim ∧ q < lim) (hw : w.heap.size ≤ lim) : H13 w go po u gs os p q z (W.alloc o') :=
  let ⟨c0, c1, c2, c3, c4, c5, c6, c7, c8, c9, c10, _, _, _, l⟩ := h
  ⟨cell_realloc c0 (by omega), cell_realloc c1 (by omega), cell_realloc c2 (by omega), cell_realloc c3 (by omega), cell_realloc c4 (by omega), cell_realloc c5 (by omega), cell_realloc c6 (by omega), cell_realloc c7 (by omega), cell_realloc c8 (by omega), cell_realloc c9 (by omega), cell_realloc c10 (by omega), (by simp; omega), (by simp; omega), (by simp; omega), below_realloc l (by omega) (by omega)⟩
theorem H13.set5 {w W : World} {go po : Nat} {u : Dw} {gs os p : Nat} {q : Nat} {z : Dw} {lim k : Nat} {u0 u1 u2 u3 u4 : Value} (h : H13 w go po u gs os p q z W) (hq : lim ≤ k) (hn : go < lim ∧ gs < lim ∧ q < lim) (hw : w.heap.size ≤ lim) : H13 w go po u gs os p q z (((((W.setCell ⟨k, 0, none⟩ u0).setCell ⟨k, 1, none⟩ u1).setCell ⟨k, 2, none⟩ u2).setCell ⟨k, 3, none⟩ u3).setCell ⟨k, 4, none⟩ u4) :=
  let ⟨c0, c1, c2, c3, c4, c5, c6, c7, c8, c9, c10, z0, z1, z2, l⟩ := h
  ⟨cell_far5 c0 (by omega), cell_far5 c1 (by omega), cell_far5 c2 (by omega), cell_far5 c3 (by omega), cell_far5 c4 (by omega), cell_far5 c5 (by omega), cell_far5 c6 (by omega), cell_far5 c7 (by omega), cell_far5 c8 (by omega), cell_far5 c9 (by omega), cell_far5 c10 (by omega), (by simpa [World.setCell] using z0), (by simpa [World.setCell] using z1), (by simpa [World.setCell] using z2), ((((l.setCell (p := ⟨k, 0, none⟩) (Nat.le_trans hw hq) _).setCell (p := ⟨k, 1, none⟩) (Nat.le_trans hw hq) _).setCell (p := ⟨k, 2, none⟩) (Nat.le_trans hw hq) _).setCell (p := ⟨k, 3, none⟩) (Nat.le_trans hw hq) _).setCell (p := ⟨k, 4, none⟩) (Nat.le_trans hw hq) _⟩
theorem H13.low {w w1 : World} {go po : Nat} {u : Dw} {gs os p : Nat} {q : Nat} {z : Dw} (h : H13 w go po u gs os p q z w1) : Below w.heap.size w w1 := let ⟨_, _, _, _, _, _, _, _, _, _, _, _, _, _, l⟩ := h; l
attribute [local irreducible] World.cell?
set_option maxRecDepth 100000 in
set_option maxHeartbeats 12800000 in
theorem sapG_yes (B : Nat) (g : Gt) (v : Value) (l : List Dw) (w : World) (hv : DSl w B v l) (hst : stB l = true) (hg : gtB g (qc l.length) = true) :
    Calls Tryz.prog 35 #[(.agg #[.int .i64 g.k, .int .i64 g.a, .int .i64 g.b, .int .i64 g.c]), v] w fun e w' => (∃ r, e = .returned (.tuple #[r, .bool (agB g l)]) ∧ DSl w' w.heap.size r (agV g l)) ∧ Below w.heap.size w w' := by
  obtain ⟨i0, hi, hz0, hz1, hz2⟩ := info_parts infoDw
  have hlen := stB_len hst
  have Hb0 := Lib.hid (show Below w.heap.size w (w.alloc (.cells #[.int .i64 g.k, .int .i64 g.a, .int .i64 g.b, .int .i64 g.c] 25)) by go_grown)
  have Hg0 := Lib.hid (heap_alloc_new w (.cells #[.int .i64 g.k, .int .i64 g.a, .int .i64 g.b, .int .i64 g.c] 25))
  have H1 := Lib.hid (svalidSt B v l (w.alloc (.cells #[.int .i64 g.k, .int .i64 g.a, .int .i64 g.b, .int .i64 g.c] 25)).drew ((hv.below ((Below.refl _ _).alloc (Nat.le_refl _) (.cells #[.int .i64 g.k, .int .i64 g.a, .int .i64 g.b, .int .i64 g.c] 25))).block fun _ _ _ => rfl) (by omega))
  have H3 := Lib.hid (fun W => svalidG g (qc l.length) W)
  simp only [hg] at H3
  rw [hst] at H1
  obtain ⟨hn, hgk, hga, hgb, hgc⟩ := gtB_parts hg
  have Hgo := Lib.hid (fun i W (hi : i < 16) => sgoesG g i W hgk (by omega) (by omega) (by omega) hi)
  have Hin := Lib.hid (fun i (h : i < l.length) => goesG_in hg h)
  have Hlen := Lib.hid (fun i => goes_len (g := g) (i := i))
  have HO := Lib.hid (show agO g l = apO (goesG g) 0 l (List.replicate l.length .zero) by unfold agO; rw [hst, hg]; rfl)
  have HV := Lib.hid (show agV g l = (agO g l).getD [] from rfl)
  have HT := Lib.hid (show agB g l = (agO g l).isSome from rfl)
  generalize agV g l = V at *
  generalize agB g l = T at *
  generalize agO g l = O at *
  generalize goesG g = G at *
  obtain ⟨c0, c1, c2, c3⟩ := blk_cells (heap_alloc_new w (.cells #[.int .i64 g.k, .int .i64 g.a, .int .i64 g.b, .int .i64 g.c] 25))
  have hS : G1 (w.alloc (.cells #[.int .i64 g.k, .int .i64 g.a, .int .i64 g.b, .int .i64 g.c] 25)) w.heap.size g (w.alloc (.cells #[.int .i64 g.k, .int .i64 g.a, .int .i64 g.b, .int .i64 g.c] 25)) := ⟨c0, c1, c2, c3, by simp, Below.refl _ _⟩
  obtain ⟨a, cap, rfl, hcap, hr⟩ := hv
  have Hq := Lib.hid (fun W => squbits a l.length cap W)
  have Hr := Lib.hid hr
  have hqr := qc_range l.length
  generalize qc l.length = n at *
  clear hst hg hr hgk hga hgb hgc hn
  go_enter Tryz.func35, Tryz.ntmps35
  go_upto_region 1 with fail
  refine wp_region_held_drew (S := (fun w' => w'.cell? ⟨w.heap.size, 0, none⟩ = some (.int .i64 g.k) ∧ w'.cell? ⟨w.heap.size, 1, none⟩ = some (.int .i64 g.a) ∧ w'.cell? ⟨w.heap.size, 2, none⟩ = some (.int .i64 g.b) ∧ w'.cell? ⟨w.heap.size, 3, none⟩ = some (.int .i64 g.c) ∧ w.heap.size < w'.heap.size ∧ Below (w.alloc (.cells #[.int .i64 g.k, .int .i64 g.a, .int .i64 g.b, .int .i64 g.c] 25)).heap.size (w.alloc (.cells #[.int .i64 g.k, .int .i64 g.a, .int .i64 g.b, .int .i64 g.c] 25)) w')) (by kernel_rfl) ?_ (fun hHeld => ?_)
  · exact hS.drew
  refine wpAnyH_take (i := 0) (oi := _) (v := ?_) op_at0 (by kernel_rfl) (by kernel_rfl) (by kernel_rfl) (fun _ _ _ h => h) (Or.inl ⟨by rfl, ?_⟩) (by assumption) ?_
  rotate_left
  · intro w hSw
    (try dsimp only at hSw)
    go_simp
    (try with_reducible rfl)
  (try simp only [Act.put, List.setIfInBounds_toArray, List.set_cons_zero, List.set_cons_succ])
  refine wpAnyH_ready (rs := [1]) (by kernel_rfl) (by simp) ?_
  refine AllReadyH.cons (o := _) op_at1 (fun K hK => ?_) ?_
  · go_simp
    refine (H1.out).mono ?_
    rintro e wR ⟨rfl, hbR⟩
    go_wp2_with fail
    refine hK.out _ _ ?_ (fun hHeld => ?_)
    · exact hS.drew.below hbR
    clear hK K
    (try simp only [Act.put, List.setIfInBounds_toArray, List.set_cons_zero, List.set_cons_succ])
    refine wpAnyH_take (i := 2) (oi := _) (v := ?_) op_at2 (by kernel_rfl) (by kernel_rfl) (by kernel_rfl) (fun _ _ _ h => h) (Or.inl ⟨by rfl, ?_⟩) (by assumption) ?_
    rotate_left
    · intro w hSw
      (try dsimp only at hSw)
      go_simp
      (try with_reducible rfl)
    (try simp only [Act.put, List.setIfInBounds_toArray, List.set_cons_zero, List.set_cons_succ])
    refine wpAnyH_take (i := 3) (oi := _) (v := ?_) op_at3 (by kernel_rfl) (by kernel_rfl) (by kernel_rfl) (fun _ _ _ h => h) (Or.inl ⟨by rfl, ?_⟩) (by assumption) ?_
    rotate_left
    · intro w hSw
      (try dsimp only at hSw)
      go_simp
      (try with_reducible rfl)
    (try simp only [Act.put, List.setIfInBounds_toArray, List.set_cons_zero, List.set_cons_succ])
    refine wpAnyH_take (i := 4) (oi := _) (v := ?_) op_at4 (by kernel_rfl) (by kernel_rfl) (by kernel_rfl) (fun _ _ _ h => h) (Or.inl ⟨by rfl, ?_⟩) (by assumption) ?_
    rotate_left
    · intro w hSw
      (try dsimp only at hSw)
      go_simp
      (try with_reducible rfl)
    (try simp only [Act.put, List.setIfInBounds_toArray, List.set_cons_zero, List.set_cons_succ])
    refine wpAnyH_take (i := 5) (oi := _) (v := ?_) op_at5 (by kernel_rfl) (by kernel_rfl) (by kernel_rfl) (fun _ _ _ h => h) (Or.inl ⟨by rfl, ?_⟩) (by assumption) ?_
    rotate_left
    · intro w hSw
      (try dsimp only at hSw)
      go_simp
      (try with_reducible rfl)
    (try simp only [Act.put, List.setIfInBounds_toArray, List.set_cons_zero, List.set_cons_succ])
    refine wpAnyH_ready (rs := [6]) (by kernel_rfl) (by simp) ?_
    refine AllReadyH.cons (o := _) op_at6 (fun K hK => ?_) ?_
    · go_simp
      refine (Hq.out _).mono ?_
      rintro e wQ ⟨rfl, rfl⟩
      go_wp2_with fail
      refine hK.out _ _ ?_ (fun hHeld => ?_)
      · exact hHeld
      clear hK K
      (try simp only [Act.put, List.setIfInBounds_toArray, List.set_cons_zero, List.set_cons_succ])
      refine wpAnyH_ready (rs := [7]) (by kernel_rfl) (by simp) ?_
      refine AllReadyH.cons (o := _) op_at7 (fun K hK => ?_) ?_
      · go_simp
        refine (H3.out _).mono ?_
        rintro e w3 ⟨rfl, hb3⟩
        go_wp2_with fail
        refine hK.out _ _ ?_ (fun hHeld => ?_)
        · exact (show G1 (w.alloc (.cells #[.int .i64 g.k, .int .i64 g.a, .int .i64 g.b, .int .i64 g.c] 25)) w.heap.size g wR from hHeld).below hb3
        clear hK K
        (try simp only [Act.put, List.setIfInBounds_toArray, List.set_cons_zero, List.set_cons_succ])
        refine wpAnyH_take (i := 8) (oi := _) (v := ?_) op_at8 (by kernel_rfl) (by kernel_rfl) (by kernel_rfl) (fun _ _ _ h => h) (Or.inl ⟨by rfl, ?_⟩) (by assumption) ?_
        rotate_left
        · intro w hSw
          (try dsimp only at hSw)
          go_simp
          (try with_reducible rfl)
        (try simp only [Act.put, List.setIfInBounds_toArray, List.set_cons_zero, List.set_cons_succ])
        refine wpAnyH_take (i := 9) (oi := _) (v := ?_) op_at9 (by kernel_rfl) (by kernel_rfl) (by kernel_rfl) (fun _ _ _ h => h) (Or.inl ⟨by rfl, ?_⟩) (by assumption) ?_
        rotate_left
        · intro w hSw
          (try dsimp only at hSw)
          go_simp
          (try with_reducible rfl)
        (try simp only [Act.put, List.setIfInBounds_toArray, List.set_cons_zero, List.set_cons_succ])
        refine wpAnyH_done (by kernel_rfl) ?_ _
        have hS3 : G1 (w.alloc (.cells #[.int .i64 g.k, .int .i64 g.a, .int .i64 g.b, .int .i64 g.c] 25)) w.heap.size g w3 := hHeld
        have HG3 := Lib.hid (below_blk hb3 (by have h1 := hbR.size; have h2 : (w.alloc (.cells #[.int .i64 g.k, .int .i64 g.a, .int .i64 g.b, .int .i64 g.c] 25)).drew.heap.size = w.heap.size + 1 := (by simp [World.drew]); omega) (below_blk hbR (by simp [World.drew]) (show (w.alloc (.cells #[.int .i64 g.k, .int .i64 g.a, .int .i64 g.b, .int .i64 g.c] 25)).drew.heap[w.heap.size]? = _ from Hg0.out)))
        have Hb3 := Lib.hid (Hb0.out.trans (hS3.low.mono (by simp)))
        have hs3 := Hb3.out.size
        have hG3 := lt_of_block HG3.out
        clear hbR hb3 hS hS3 hHeld c0 c1 c2 c3 H1 H3 Hq
        go_wp2_with (first | (at_make; refine wpList_make_full _ rfl _ _ 59 rfl w3.heap.size 70 i0 (.agg #[.int .i64 0, .int .i64 0, .int .i64 0, .int .i64 0, .int .i64 0]) 5 Tryz.underlying59 hi hz0 hz1 .i64 .i64 l.length l.length l.length rfl rfl rfl rfl (by rw [hz2]; omega) (by unfold maxLen; omega) (Nat.le_refl _) ?_))
        intro w4 hown hgrow
        have Hb4 := Lib.hid (show Below w.heap.size w w4 from Hb3.out.grown hgrow hs3 (fun k hk => by cases hk))
        have Hrow4 := Lib.hid (show DRow w4 w3.heap.size (List.replicate l.length .zero) by
          rcases hown.2 with ⟨h, _⟩ | ⟨g', cap', cur, hv', hb', hg', _, _, hs', ht'⟩
          · cases h
          · obtain ⟨rfl, rfl⟩ : g' = w3.heap.size ∧ cap' = l.length := by injection hv' with hv' _ hv2; injection hv' with hv'; injection hv' with hv'; exact ⟨hv'.symm, hv2.symm⟩
            exact ⟨cur, hg', by rw [List.length_replicate, ht', made_flat]⟩)
        have HG4 := Lib.hid (grown_blk hgrow HG3.out (by simp))
        have Hst4 := Lib.hid HO.out.symm
        clear hown hgrow HG3 Hb3 HO
        go_wp2_with fail
        go_loopg [7] l.length (fun m i wr => ∃ (j : Nat) (o : List Dw), m = l.length - j ∧ j ≤ l.length ∧ i = .int .i64 j ∧ o.length = l.length ∧ Hid (∀ y ∈ o, y.ok) ∧ Hid (apO G j (l.drop j) o = O) ∧ Hid (DRow wr w3.heap.size o) ∧ Hid (wr.heap[w.heap.size]? = some (.cells #[.int .i64 g.k, .int .i64 g.a, .int .i64 g.b, .int .i64 g.c] 25)) ∧ Hid (Below w.heap.size w wr))
        case atStart => exact ⟨0, _, rfl, Nat.zero_le _, rfl, by simp, Lib.hid rep_ok, Hst4, Hrow4, HG4, Hb4⟩
        case round =>
          obtain ⟨j, o, rfl, hj, rfl, hol, Hok, Hap, Hrow, HG, Hb⟩ := hrel
          have hsw := Hb.out.size
          have hol3 := Hrow.out.lt
          by_cases hlt : j < l.length
          · obtain ⟨gv, rfl, _, hrow⟩ := Hr.out (by omega)
            obtain ⟨x, hx⟩ : ∃ x, l[j]? = some x := ⟨l[j], List.getElem?_eq_getElem hlt⟩
            have hgv := hrow.lt
            have Hx := Lib.hid hx
            have Hstep := Lib.hid (ap_step (G := G) (o := o) hx)
            obtain ⟨d0, d1, d2, d3, d4⟩ := (hrow.below Hb.out hgv).cells hx
            have Heqx : ∀ w, (binOp .eql 70 (.agg #[.int .i64 x.n.a, .int .i64 x.n.b, .int .i64 x.n.c, .int .i64 x.n.d, .int .i64 x.e]) (.agg #[.int .i64 0, .int .i64 0, .int .i64 0, .int .i64 0, .int .i64 0])).run Tryz.prog w = .ok (.bool (eqDB x .zero)) w := fun w => eqD x .zero w
            have Hv := Lib.hid hrow
            clear hx hrow
            by_cases hxz : x = .zero
            · have h := Hstep.out.symm.trans Hap.out
              rw [if_pos hxz] at h
              have Hn := Lib.hid h
              rw [eqDB_iff.2 hxz] at Heqx
              clear h hxz
              go_wp2_with fail
              go_roundg (l.length - (j + 1))
              case measure => omega
              case rel => exact ⟨j + 1, o, rfl, by omega, by go_num, hol, Hok, Hn, Hrow, HG, Hb⟩
            · have h := Hstep.out.symm.trans Hap.out
              rw [if_neg hxz] at h
              have Hn := Lib.hid h
              rw [eqDB_no hxz] at Heqx
              have Hg5 := Lib.hid (Hgo.out j wr (by omega))
              have HinJ := Lib.hid (Hin.out j hlt)
              obtain ⟨e0, e1, e2, e3⟩ := blk_cells HG.out
              have heg := lt_of_block HG.out
              clear h hxz Hstep
              have hLl := Hlen.out j
              generalize G j = L at *
              go_wp2_with fail
              refine (Hg5.out).mono ?_
              rintro e w5 ⟨vL, rfl, hdL, hb5⟩
              have HdL := Lib.hid hdL
              have Hrow5 := Lib.hid (Hrow.out.below hb5 hol3)
              have HG5 := Lib.hid (below_blk hb5 heg HG.out)
              have Hb5 := Lib.hid (below_up Hb.out hb5 hsw)
              have hs5 := hb5.size
              obtain ⟨aL, capL, rfl, hcL, -⟩ := hdL
              clear hb5 Hrow HG Hb e0 e1 e2 e3 d0 d1 d2 d3 d4 Heqx Hg5
              go_wp2_with fail
              go_loopg [9] L.length (fun m i ws => ∃ (k : Nat) (o' : List Dw), m = L.length - k ∧ k ≤ L.length ∧ i = .int .i64 k ∧ o'.length = l.length ∧ Hid (∀ y ∈ o', y.ok) ∧ Hid (sendO x (L.drop k) o' = sendO x L o) ∧ Hid (DRow ws w3.heap.size o') ∧ Hid (sentE.Sl ws (w3.heap.size + 1) (.slice aL L.length capL) L) ∧ Hid (ws.heap[w.heap.size]? = some (.cells #[.int .i64 g.k, .int .i64 g.a, .int .i64 g.b, .int .i64 g.c] 25)) ∧ Hid (Below w.heap.size w ws))
              case atStart => exact ⟨0, o, rfl, Nat.zero_le _, rfl, hol, Hok, Lib.hid rfl, Hrow5, Lib.hid (HdL.out.mono (by omega)), HG5, Hb5⟩
              case round =>
                obtain ⟨k, o', rfl, hk, rfl, hol', Hok', Hse, Hrow, HdL, HG, Hb⟩ := hrel
                have hsw2 := Hb.out.size
                have hol2 := Hrow.out.lt
                by_cases hkl : k < L.length
                · obtain ⟨p, hp⟩ : ∃ p, L[k]? = some p := ⟨L[k], List.getElem?_eq_getElem hkl⟩
                  have hpin := HinJ.out p (List.mem_of_getElem? hp)
                  obtain ⟨aL', capL', e, hcL', hrL⟩ := HdL.out
                  injection e with e1 _ e3
                  subst e1 e3
                  obtain ⟨gs, rfl, hgs, hsrow⟩ := hrL (by omega)
                  have hgsl := hsrow.lt
                  obtain ⟨u, hu⟩ : ∃ u, o'[p.1]? = some u := ⟨o'[p.1]'(by omega), List.getElem?_eq_getElem _⟩
                  have hud : o'.getD p.1 .zero = u := by rw [List.getD_eq_getElem?_getD, hu]; rfl
                  have hxe := mul_eb x p.2
                  have hue := ok_eb (Hok'.out u (List.mem_of_getElem? hu))
                  have Hstep := Lib.hid (send_step (x := x) (o := o') hp)
                  rw [hud] at Hstep
                  have Hmul := Lib.hid (fun W => smulD_any x p.2 W)
                  have Hadd := Lib.hid (fun W => saddD_any u (dMulV x p.2) W hue.1 hue.2 hxe.1 hxe.2)
                  have Hzok := Lib.hid (fun h => dAddV_ok (x := u) (y := dMulV x p.2) h)
                  obtain ⟨s0, s1, s2, s3, s4, s5⟩ := SRow.cells hsrow hp
                  obtain ⟨d0, d1, d2, d3, d4⟩ := (Hv.out.below Hb.out hgv).cells Hx.out
                  obtain ⟨u0, u1, u2, u3, u4⟩ := Hrow.out.cells hu
                  have hgvl := Nat.lt_of_lt_of_le hgv Hb.out.size
                  have Hsr := Lib.hid hsrow
                  have hpl : p.1 < l.length := hpin
                  obtain ⟨at', y⟩ := p
                  simp only [] at hpl Hstep Hmul Hadd Hzok s0 s1 s2 s3 s4 s5 u0 u1 u2 u3 u4 hxe
                  clear hp hrL hsrow hu hud hue hxe HdL
                  generalize dAddV u (dMulV x y) = f at *
                  generalize dAddB u (dMulV x y) = t2 at *
                  generalize dMulV x y = z at *
                  generalize dMulB x y = t1 at *
                  go_upto_region 12 with fail
                  go_cut [10, 11] from 43 to 61 (fun s10 s11 wx => ∃ q, s10 = .pointer (some ⟨q, 0, none⟩) ∧ s11 = .bool t1 ∧ wx.cell? ⟨q, 0, none⟩ = some (.int .i64 z.n.a) ∧ wx.cell? ⟨q, 1, none⟩ = some (.int .i64 z.n.b) ∧ wx.cell? ⟨q, 2, none⟩ = some (.int .i64 z.n.c) ∧ wx.cell? ⟨q, 3, none⟩ = some (.int .i64 z.n.d) ∧ wx.cell? ⟨q, 4, none⟩ = some (.int .i64 z.e) ∧ Hid (Below wr.heap.size wr wx))
                  case first =>
                    have hS : H12 wr gv (j * 5) x gs (k * 6) at' y wr := ⟨d0, d1, d2, d3, d4, s0, s1, s2, s3, s4, s5, hgvl, hgsl, Below.refl _ _⟩
                    have hq : wr.heap.size ≤ wr.heap.size := Nat.le_refl _
                    have hn : gv < wr.heap.size ∧ gs < wr.heap.size := ⟨hgvl, hgsl⟩
                    have hw : wr.heap.size ≤ wr.heap.size := Nat.le_refl _
                    go_region_held3 (fun w' => w'.cell? ⟨gv, (j * 5), none⟩ = some (.int .i64 x.n.a) ∧ w'.cell? ⟨gv, (j * 5) + 1, none⟩ = some (.int .i64 x.n.b) ∧ w'.cell? ⟨gv, (j * 5) + 2, none⟩ = some (.int .i64 x.n.c) ∧ w'.cell? ⟨gv, (j * 5) + 3, none⟩ = some (.int .i64 x.n.d) ∧ w'.cell? ⟨gv, (j * 5) + 4, none⟩ = some (.int .i64 x.e) ∧ w'.cell? ⟨gs, (k * 6), none⟩ = some (.int .i64 (at' : Int)) ∧ w'.cell? ⟨gs, (k * 6) + 1, none⟩ = some (.int .i64 y.n.a) ∧ w'.cell? ⟨gs, (k * 6) + 2, none⟩ = some (.int .i64 y.n.b) ∧ w'.cell? ⟨gs, (k * 6) + 3, none⟩ = some (.int .i64 y.n.c) ∧ w'.cell? ⟨gs, (k * 6) + 4, none⟩ = some (.int .i64 y.n.d) ∧ w'.cell? ⟨gs, (k * 6) + 5, none⟩ = some (.int .i64 y.e) ∧ gv < w'.heap.size ∧ gs < w'.heap.size ∧ Below wr.heap.size wr w') (first | (show H12 wr gv (j * 5) x gs (k * 6) at' y _; (with_reducible exact hS.drew)) | (show H12 wr gv (j * 5) x gs (k * 6) at' y _; (with_reducible exact (hS.alloc _).drew)) | (show H12 wr gv (j * 5) x gs (k * 6) at' y _; (with_reducible refine H12.below ?_ hbR); first | assumption | exact ⟨by assumption, by assumption, by assumption, by assumption, by assumption, by assumption, by assumption, by assumption, by assumption, by assumption, by assumption, by assumption, by assumption, by assumption⟩) | (show H12 wr gv (j * 5) x gs (k * 6) at' y _; (with_reducible refine H12.alloc ?_ _); first | assumption | exact ⟨by assumption, by assumption, by assumption, by assumption, by assumption, by assumption, by assumption, by assumption, by assumption, by assumption, by assumption, by assumption, by assumption, by assumption⟩) | (show H12 wr gv (j * 5) x gs (k * 6) at' y _; (with_reducible refine H12.realloc (o := .cells #[.int .i64 0, .int .i64 0, .int .i64 0, .int .i64 0, .int .i64 0] 70) ?_ hq hn hw); first | assumption | exact ⟨by assumption, by assumption, by assumption, by assumption, by assumption, by assumption, by assumption, by assumption, by assumption, by assumption, by assumption, by assumption, by assumption, by assumption⟩) | (show H12 wr gv (j * 5) x gs (k * 6) at' y _; (with_reducible refine H12.set5 (lim := wr.heap.size) ?_ ?_ hn hw); (first | assumption | exact ⟨by assumption, by assumption, by assumption, by assumption, by assumption, by assumption, by assumption, by assumption, by assumption, by assumption, by assumption, by assumption, by assumption, by assumption⟩); (first | assumption | exact Nat.le_refl _)))
                      (first | (go_at_call 73; (first | (with_reducible refine (Hmul.out _).mono ?_)); rintro e wR ⟨rfl, hbR⟩; (first | (have hq := Nat.le_trans hq hbR.size) | (have hq : wr.heap.size ≤ wR.heap.size := by have := hbR.size; simpa using this) | (have hq : wr.heap.size ≤ wR.heap.size := by have := hbR.size; simp at this; exact Nat.le_of_succ_le this) | (have hq := Nat.le_trans hq (Nat.le_of_succ_le (by have := hbR.size; simpa using this)))); obtain ⟨hcR, hfR, hzR⟩ := bgrow hbR; (first | (have zg := hzR _ zg) | (have zg := hzR _ (lt_alloc _ _); try simp at zg) | skip)))
                    all_goals go_wp2_with fail
                    all_goals go_meet
                    all_goals refine ⟨_, rfl, rfl, ?_, ?_, ?_, ?_, ?_, H12.low (gv := gv) (ov := j * 5) (x := x) (gs := gs) (os := k * 6) (p := at') (y := y) (by assumption)⟩
                    all_goals (simp [*, go_sem]; done)
                  case rest =>
                  obtain ⟨q, rfl, rfl, k0, k1, k2, k3, k4, Hbx⟩ := hcut
                  obtain ⟨w6, rfl⟩ : ∃ W, W = wc := ⟨_, rfl⟩
                  have Hrow6 := Lib.hid (Hrow.out.below Hbx.out hol2)
                  have Hsr6 := Lib.hid (Hsr.out.below Hbx.out hgsl)
                  have HG6 := Lib.hid (below_blk Hbx.out (lt_of_block HG.out) HG.out)
                  have Hb6 := Lib.hid (below_up Hb.out Hbx.out hsw2)
                  have hsw6 := Hb6.out.size
                  have hql := World.block_lt_of_cell? _ _ k0
                  have hg6 := Hsr6.out.lt
                  have ho6 := Hrow6.out.lt
                  have a0 := cell_below s0 Hbx.out hgsl
                  have v0 := cell_below u0 Hbx.out hol2
                  have v1 := cell_below u1 Hbx.out hol2
                  have v2 := cell_below u2 Hbx.out hol2
                  have v3 := cell_below u3 Hbx.out hol2
                  have v4 := cell_below u4 Hbx.out hol2
                  clear d0 d1 d2 d3 d4 s0 s1 s2 s3 s4 s5 u0 u1 u2 u3 u4 Hrow Hsr HG Hb Hbx Hmul
                  go_upto_region 13 with fail
                  go_cut [12, 13] from 62 to 74 (fun s12 s13 wx => ∃ r, s12 = .pointer (some ⟨r, 0, none⟩) ∧ s13 = .bool t2 ∧ wx.cell? ⟨r, 0, none⟩ = some (.int .i64 f.n.a) ∧ wx.cell? ⟨r, 1, none⟩ = some (.int .i64 f.n.b) ∧ wx.cell? ⟨r, 2, none⟩ = some (.int .i64 f.n.c) ∧ wx.cell? ⟨r, 3, none⟩ = some (.int .i64 f.n.d) ∧ wx.cell? ⟨r, 4, none⟩ = some (.int .i64 f.e) ∧ Hid (Below w6.heap.size w6 wx))
                  case first =>
                    have hS : H13 w6 w3.heap.size (at' * 5) u gs (k * 6) at' q z w6 := ⟨v0, v1, v2, v3, v4, a0, k0, k1, k2, k3, k4, ho6, hg6, hql, Below.refl _ _⟩
                    have hq : w6.heap.size ≤ w6.heap.size := Nat.le_refl _
                    have hn : w3.heap.size < w6.heap.size ∧ gs < w6.heap.size ∧ q < w6.heap.size := ⟨ho6, hg6, hql⟩
                    have hw : w6.heap.size ≤ w6.heap.size := Nat.le_refl _
                    go_region_held3 (fun w' => w'.cell? ⟨w3.heap.size, (at' * 5), none⟩ = some (.int .i64 u.n.a) ∧ w'.cell? ⟨w3.heap.size, (at' * 5) + 1, none⟩ = some (.int .i64 u.n.b) ∧ w'.cell? ⟨w3.heap.size, (at' * 5) + 2, none⟩ = some (.int .i64 u.n.c) ∧ w'.cell? ⟨w3.heap.size, (at' * 5) + 3, none⟩ = some (.int .i64 u.n.d) ∧ w'.cell? ⟨w3.heap.size, (at' * 5) + 4, none⟩ = some (.int .i64 u.e) ∧ w'.cell? ⟨gs, (k * 6), none⟩ = some (.int .i64 (at' : Int)) ∧ w'.cell? ⟨q, 0, none⟩ = some (.int .i64 z.n.a) ∧ w'.cell? ⟨q, 1, none⟩ = some (.int .i64 z.n.b) ∧ w'.cell? ⟨q, 2, none⟩ = some (.int .i64 z.n.c) ∧ w'.cell? ⟨q, 3, none⟩ = some (.int .i64 z.n.d) ∧ w'.cell? ⟨q, 4, none⟩ = some (.int .i64 z.e) ∧ w3.heap.size < w'.heap.size ∧ gs < w'.heap.size ∧ q < w'.heap.size ∧ Below w6.heap.size w6 w') (first | (show H13 w6 w3.heap.size (at' * 5) u gs (k * 6) at' q z _; (with_reducible exact hS.drew)) | (show H13 w6 w3.heap.size (at' * 5) u gs (k * 6) at' q z _; (with_reducible exact (hS.alloc _).drew)) | (show H13 w6 w3.heap.size (at' * 5) u gs (k * 6) at' q z _; (with_reducible refine H13.below ?_ hbR); first | assumption | exact ⟨by assumption, by assumption, by assumption, by assumption, by assumption, by assumption, by assumption, by assumption, by assumption, by assumption, by assumption, by assumption, by assumption, by assumption, by assumption⟩) | (show H13 w6 w3.heap.size (at' * 5) u gs (k * 6) at' q z _; (with_reducible refine H13.alloc ?_ _); first | assumption | exact ⟨by assumption, by assumption, by assumption, by assumption, by assumption, by assumption, by assumption, by assumption, by assumption, by assumption, by assumption, by assumption, by assumption, by assumption, by assumption⟩) | (show H13 w6 w3.heap.size (at' * 5) u gs (k * 6) at' q z _; (with_reducible refine H13.realloc (o := .cells #[.int .i64 0, .int .i64 0, .int .i64 0, .int .i64 0, .int .i64 0] 70) ?_ hq hn hw); first | assumption | exact ⟨by assumption, by assumption, by assumption, by assumption, by assumption, by assumption, by assumption, by assumption, by assumption, by assumption, by assumption, by assumption, by assumption, by assumption, by assumption⟩) | (show H13 w6 w3.heap.size (at' * 5) u gs (k * 6) at' q z _; (with_reducible refine H13.set5 (lim := w6.heap.size) ?_ ?_ hn hw); (first | assumption | exact ⟨by assumption, by assumption, by assumption, by assumption, by assumption, by assumption, by assumption, by assumption, by assumption, by assumption, by assumption, by assumption, by assumption, by assumption, by assumption⟩); (first | assumption | exact Nat.le_refl _)))
                      (first | (go_at_call 74; (first | (with_reducible refine (Hadd.out _).mono ?_)); rintro e wR ⟨rfl, hbR⟩; (first | (have hq := Nat.le_trans hq hbR.size) | (have hq : w6.heap.size ≤ wR.heap.size := by have := hbR.size; simpa using this) | (have hq : w6.heap.size ≤ wR.heap.size := by have := hbR.size; simp at this; exact Nat.le_of_succ_le this) | (have hq := Nat.le_trans hq (Nat.le_of_succ_le (by have := hbR.size; simpa using this)))); obtain ⟨hcR, hfR, hzR⟩ := bgrow hbR; (first | (have zg := hzR _ zg) | (have zg := hzR _ (lt_alloc _ _); try simp at zg) | skip)))
                    all_goals go_wp2_with fail
                    all_goals go_meet
                    all_goals refine ⟨_, rfl, rfl, ?_, ?_, ?_, ?_, ?_, H13.low (go := w3.heap.size) (po := at' * 5) (u := u) (gs := gs) (os := k * 6) (p := at') (q := q) (z := z) (by assumption)⟩
                    all_goals (simp [*, go_sem]; done)
                  case rest =>
                  obtain ⟨r, rfl, rfl, m0, m1, m2, m3, m4, Hby⟩ := hcut
                  have Hrow7 := Lib.hid (Hrow6.out.below Hby.out ho6)
                  have Hsr7 := Lib.hid (Hsr6.out.below Hby.out hg6)
                  have HG7 := Lib.hid (below_blk Hby.out (lt_of_block HG6.out) HG6.out)
                  have Hb7 := Lib.hid (below_up Hb6.out Hby.out hsw6)
                  have hsw7 := Hb7.out.size
                  have hrl := World.block_lt_of_cell? _ _ m0
                  have hg7 := Hsr7.out.lt
                  have ho7 := Hrow7.out.lt
                  have b0 := cell_below a0 Hby.out hg6
                  have x0 := cell_below v0 Hby.out ho6
                  have x1 := cell_below v1 Hby.out ho6
                  have x2 := cell_below v2 Hby.out ho6
                  have x3 := cell_below v3 Hby.out ho6
                  have x4 := cell_below v4 Hby.out ho6
                  have fO := fun o => Hrow7.out.free o
                  clear a0 v0 v1 v2 v3 v4 k0 k1 k2 k3 k4 Hrow6 Hsr6 HG6 Hb6 Hby Hadd
                  by_cases ht : t1 = true ∧ t2 = true
                  · obtain ⟨rfl, rfl⟩ := ht
                    have h := Hstep.out.symm.trans Hse.out
                    simp only [Bool.and_self, if_true] at h
                    have Hse2 := Lib.hid h
                    have Hok2 := Lib.hid (set_ok (p := at') Hok'.out (Hzok.out rfl))
                    have Hput := Lib.hid (Hrow7.out.put at' (by omega) f)
                    have hng : w.heap.size ≠ w3.heap.size := by omega
                    have Hsl := Lib.hid (show sentE.Sl (((((wc.setCell ⟨w3.heap.size, at' * 5, none⟩ (.int .i64 f.n.a)).setCell ⟨w3.heap.size, at' * 5 + 1, none⟩ (.int .i64 f.n.b)).setCell ⟨w3.heap.size, at' * 5 + 2, none⟩ (.int .i64 f.n.c)).setCell ⟨w3.heap.size, at' * 5 + 3, none⟩ (.int .i64 f.n.d)).setCell ⟨w3.heap.size, at' * 5 + 4, none⟩ (.int .i64 f.e)) (w3.heap.size + 1) (.slice (some ⟨gs, 0, none⟩) L.length capL) L from sl_set1 (sl_set1 (sl_set1 (sl_set1 (sl_set1 (Enc.Sl.mk rfl hcL' hgs Hsr7.out) (Nat.lt_succ_self _)) (Nat.lt_succ_self _)) (Nat.lt_succ_self _)) (Nat.lt_succ_self _)) (Nat.lt_succ_self _))
                    have HGs := Lib.hid (show (((((wc.setCell ⟨w3.heap.size, at' * 5, none⟩ (.int .i64 f.n.a)).setCell ⟨w3.heap.size, at' * 5 + 1, none⟩ (.int .i64 f.n.b)).setCell ⟨w3.heap.size, at' * 5 + 2, none⟩ (.int .i64 f.n.c)).setCell ⟨w3.heap.size, at' * 5 + 3, none⟩ (.int .i64 f.n.d)).setCell ⟨w3.heap.size, at' * 5 + 4, none⟩ (.int .i64 f.e)).heap[w.heap.size]? = some (.cells #[.int .i64 g.k, .int .i64 g.a, .int .i64 g.b, .int .i64 g.c] 25) from set1_blk hng (set1_blk hng (set1_blk hng (set1_blk hng (set1_blk hng HG7.out)))))
                    have HBs := Lib.hid (show Below w.heap.size w (((((wc.setCell ⟨w3.heap.size, at' * 5, none⟩ (.int .i64 f.n.a)).setCell ⟨w3.heap.size, at' * 5 + 1, none⟩ (.int .i64 f.n.b)).setCell ⟨w3.heap.size, at' * 5 + 2, none⟩ (.int .i64 f.n.c)).setCell ⟨w3.heap.size, at' * 5 + 3, none⟩ (.int .i64 f.n.d)).setCell ⟨w3.heap.size, at' * 5 + 4, none⟩ (.int .i64 f.e)) by have := Hb7.out; go_grown)
                    clear h Hstep hng
                    go_upto_region 16 with fail
                    go_region
                    all_goals
                      go_wp2_with fail
                      go_roundg (L.length - (k + 1))
                      case measure => omega
                      case rel => exact ⟨k + 1, o'.set at' f, rfl, by omega, by go_num, by simpa using hol', Hok2, Hse2, Lib.hid (Hput.out.block rfl), Lib.hid (Enc.Sl.block Hsl.out fun _ _ _ => rfl), Lib.hid (show (((((wc.setCell ⟨w3.heap.size, at' * 5, none⟩ (.int .i64 f.n.a)).setCell ⟨w3.heap.size, at' * 5 + 1, none⟩ (.int .i64 f.n.b)).setCell ⟨w3.heap.size, at' * 5 + 2, none⟩ (.int .i64 f.n.c)).setCell ⟨w3.heap.size, at' * 5 + 3, none⟩ (.int .i64 f.n.d)).setCell ⟨w3.heap.size, at' * 5 + 4, none⟩ (.int .i64 f.e)).drew.heap[w.heap.size]? = _ from HGs.out), Lib.hid HBs.out.drew⟩
                  · have h := Hstep.out.symm.trans Hse.out
                    have ht2 : (t1 && t2) = false := by cases t1 <;> cases t2 <;> simp at ht ⊢
                    rw [ht2] at h
                    simp only [Bool.false_eq_true, if_false] at h
                    have hO := Hn.out
                    rw [← h] at hO
                    obtain rfl : V = [] := HV.out.trans (by rw [← hO]; rfl)
                    obtain rfl : T = false := HT.out.trans (by rw [← hO]; rfl)
                    clear h hO
                    cases t1 with
                    | false =>
                      go_wp2_with fail
                      go_returns
                      exact ⟨⟨_, rfl, DSl.nil⟩, by have := Hb7.out; go_grown⟩
                    | true =>
                      obtain rfl : t2 = false := by simpa using ht2
                      go_wp2_with fail
                      go_returns
                      exact ⟨⟨_, rfl, DSl.nil⟩, by have := Hb7.out; go_grown⟩
                · obtain rfl : k = L.length := by omega
                  have h := Hse.out
                  rw [List.drop_of_length_le (Nat.le_refl _)] at h
                  have hO := Hn.out
                  rw [← h] at hO
                  have HO2 := Lib.hid (show apO G (j + 1) (l.drop (j + 1)) o' = O from hO)
                  clear h hO
                  go_wp2_with fail
                  go_roundg (l.length - (j + 1))
                  case measure => omega
                  case rel => exact ⟨j + 1, o', rfl, by omega, by go_num, hol', Hok', HO2, Hrow, HG, Hb⟩
          · obtain rfl : j = l.length := by omega
            have hO := Hap.out
            rw [List.drop_of_length_le (Nat.le_refl _)] at hO
            obtain rfl : V = o := HV.out.trans (by rw [← hO]; rfl)
            obtain rfl : T = true := HT.out.trans (by rw [← hO]; rfl)
            clear hO
            go_wp2_with fail
            go_returns
            exact ⟨⟨_, rfl, DSl.mk hol.symm (by omega) (by omega) Hrow.out⟩, Hb.out⟩
      · exact AllReadyH.nil
    · exact AllReadyH.nil
  · exact AllReadyH.nil
end Go.Proofs.YtlmiebeffdcfhaaGreat
