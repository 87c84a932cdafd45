/- BaseB16: several of our texts in one: AgN ApC ApD ApM. -/
import Derived.Test.YtkcpemkahkkcmaaGreatAgV
import Derived.Test.YtkcpemkahkkcmaaGreatApB
import Derived.Test.YtkcpemkahkkcmaaGreatBaseB15
import Derived.Test.YtkcpemkahkkcmaaGreatBaseB14
namespace Go.Proofs.YtkcpemkahkkcmaaGreat
/-- A gate of kind k and its inverse send an amplitude back to its place, twice as large. -/
def backB (k : Int) (A B C : Nat) : Bool := (List.range 16).all fun i => (List.range 16).all fun j => decide (cfs (goesL k A B C i) (fun m => cf (goesL (invK k) A B C m) j) = if i = j then twoZ else .zero)
theorem back_1 : ([1, 2, 3, 4, 5, 6, 7, 8] : List Int).all (fun k => (List.range 4).all fun A => backB k A 0 0) = true := by decide +kernel
theorem back_2 : ([9, 10, 11] : List Int).all (fun k => (List.range 4).all fun A => (List.range 4).all fun B => A == B || backB k A B 0) = true := by decide +kernel
theorem back_3 : ((List.range 4).all fun A => (List.range 4).all fun B => (List.range 4).all fun C => A == B || C == A || C == B || backB 12 A B C) = true := by decide +kernel
end Go.Proofs.YtkcpemkahkkcmaaGreat
namespace Go.Proofs.YtkcpemkahkkcmaaGreat
open Go.RowKit
attribute [local irreducible] World.cell?
set_option maxRecDepth 100000 in
set_option maxHeartbeats 3200000 in
theorem sapG_no1 (B : Nat) (g : Gt) (v : Value) (l : List Dw) (w : World) (hv : DSl w B v l) (hst : stB l = true) (hg : gtB g (qc l.length) = false) :
    Calls Tryz.prog 7 #[(.agg #[.int .i64 g.k, .int .i64 g.a, .int .i64 g.b, .int .i64 g.c]), v] w fun e w' => (∃ r, e = .returned (.tuple #[r, .bool false]) ∧ DSl w' w.heap.size r []) ∧ Below w.heap.size w w' := by
  have hlen := stB_len hst
  have Hb0 := Lib.hid (show Below w.heap.size w (w.alloc (.cells #[.int .i64 g.k, .int .i64 g.a, .int .i64 g.b, .int .i64 g.c] 25)) by go_grown)
  have H1 := Lib.hid (svalidSt B v l (w.alloc (.cells #[.int .i64 g.k, .int .i64 g.a, .int .i64 g.b, .int .i64 g.c] 25)).drew ((hv.below ((Below.refl _ _).alloc (Nat.le_refl _) (.cells #[.int .i64 g.k, .int .i64 g.a, .int .i64 g.b, .int .i64 g.c] 25))).block fun _ _ _ => rfl) (by omega))
  have H3 := Lib.hid (fun W => svalidG g (qc l.length) W)
  simp only [hg] at H3
  rw [hst] at H1
  obtain ⟨c0, c1, c2, c3⟩ := blk_cells (heap_alloc_new w (.cells #[.int .i64 g.k, .int .i64 g.a, .int .i64 g.b, .int .i64 g.c] 25))
  have hS : G1 (w.alloc (.cells #[.int .i64 g.k, .int .i64 g.a, .int .i64 g.b, .int .i64 g.c] 25)) w.heap.size g (w.alloc (.cells #[.int .i64 g.k, .int .i64 g.a, .int .i64 g.b, .int .i64 g.c] 25)) := ⟨c0, c1, c2, c3, by simp, Below.refl _ _⟩
  obtain ⟨a, cap, rfl, hcap, -⟩ := hv
  have Hq := Lib.hid (fun W => squbits a l.length cap W)
  have hqr := qc_range l.length
  generalize qc l.length = n at *
  clear hst hg
  go_enter Tryz.func7, Tryz.ntmps7
  go_upto_region 1 with fail
  refine wp_region_held_drew (S := (fun w' => w'.cell? ⟨w.heap.size, 0, none⟩ = some (.int .i64 g.k) ∧ w'.cell? ⟨w.heap.size, 1, none⟩ = some (.int .i64 g.a) ∧ w'.cell? ⟨w.heap.size, 2, none⟩ = some (.int .i64 g.b) ∧ w'.cell? ⟨w.heap.size, 3, none⟩ = some (.int .i64 g.c) ∧ w.heap.size < w'.heap.size ∧ Below (w.alloc (.cells #[.int .i64 g.k, .int .i64 g.a, .int .i64 g.b, .int .i64 g.c] 25)).heap.size (w.alloc (.cells #[.int .i64 g.k, .int .i64 g.a, .int .i64 g.b, .int .i64 g.c] 25)) w')) (by kernel_rfl) ?_ (fun hHeld => ?_)
  · exact hS.drew
  refine wpAnyH_take (i := 0) (oi := _) (v := ?_) op_at0 (by kernel_rfl) (by kernel_rfl) (by kernel_rfl) (fun _ _ _ h => h) (Or.inl ⟨by rfl, ?_⟩) (by assumption) ?_
  rotate_left
  · intro w hSw
    (try dsimp only at hSw)
    go_simp
    (try with_reducible rfl)
  (try simp only [Act.put, List.setIfInBounds_toArray, List.set_cons_zero, List.set_cons_succ])
  refine wpAnyH_ready (rs := [1]) (by kernel_rfl) (by simp) ?_
  refine AllReadyH.cons (o := _) op_at1 (fun K hK => ?_) ?_
  · go_simp
    refine (H1.out).mono ?_
    rintro e wR ⟨rfl, hbR⟩
    go_wp2_with fail
    refine hK.out _ _ ?_ (fun hHeld => ?_)
    · exact hS.drew.below hbR
    clear hK K
    (try simp only [Act.put, List.setIfInBounds_toArray, List.set_cons_zero, List.set_cons_succ])
    refine wpAnyH_take (i := 2) (oi := _) (v := ?_) op_at2 (by kernel_rfl) (by kernel_rfl) (by kernel_rfl) (fun _ _ _ h => h) (Or.inl ⟨by rfl, ?_⟩) (by assumption) ?_
    rotate_left
    · intro w hSw
      (try dsimp only at hSw)
      go_simp
      (try with_reducible rfl)
    (try simp only [Act.put, List.setIfInBounds_toArray, List.set_cons_zero, List.set_cons_succ])
    refine wpAnyH_take (i := 3) (oi := _) (v := ?_) op_at3 (by kernel_rfl) (by kernel_rfl) (by kernel_rfl) (fun _ _ _ h => h) (Or.inl ⟨by rfl, ?_⟩) (by assumption) ?_
    rotate_left
    · intro w hSw
      (try dsimp only at hSw)
      go_simp
      (try with_reducible rfl)
    (try simp only [Act.put, List.setIfInBounds_toArray, List.set_cons_zero, List.set_cons_succ])
    refine wpAnyH_take (i := 4) (oi := _) (v := ?_) op_at4 (by kernel_rfl) (by kernel_rfl) (by kernel_rfl) (fun _ _ _ h => h) (Or.inl ⟨by rfl, ?_⟩) (by assumption) ?_
    rotate_left
    · intro w hSw
      (try dsimp only at hSw)
      go_simp
      (try with_reducible rfl)
    (try simp only [Act.put, List.setIfInBounds_toArray, List.set_cons_zero, List.set_cons_succ])
    refine wpAnyH_take (i := 5) (oi := _) (v := ?_) op_at5 (by kernel_rfl) (by kernel_rfl) (by kernel_rfl) (fun _ _ _ h => h) (Or.inl ⟨by rfl, ?_⟩) (by assumption) ?_
    rotate_left
    · intro w hSw
      (try dsimp only at hSw)
      go_simp
      (try with_reducible rfl)
    (try simp only [Act.put, List.setIfInBounds_toArray, List.set_cons_zero, List.set_cons_succ])
    refine wpAnyH_ready (rs := [6]) (by kernel_rfl) (by simp) ?_
    refine AllReadyH.cons (o := _) op_at6 (fun K hK => ?_) ?_
    · go_simp
      refine (Hq.out _).mono ?_
      rintro e wQ ⟨rfl, rfl⟩
      go_wp2_with fail
      refine hK.out _ _ ?_ (fun hHeld => ?_)
      · exact hHeld
      clear hK K
      (try simp only [Act.put, List.setIfInBounds_toArray, List.set_cons_zero, List.set_cons_succ])
      refine wpAnyH_ready (rs := [7]) (by kernel_rfl) (by simp) ?_
      refine AllReadyH.cons (o := _) op_at7 (fun K hK => ?_) ?_
      · go_simp
        refine (H3.out _).mono ?_
        rintro e w3 ⟨rfl, hb3⟩
        go_wp2_with fail
        refine hK.out _ _ ?_ (fun hHeld => ?_)
        · exact (show G1 (w.alloc (.cells #[.int .i64 g.k, .int .i64 g.a, .int .i64 g.b, .int .i64 g.c] 25)) w.heap.size g wR from hHeld).below hb3
        clear hK K
        (try simp only [Act.put, List.setIfInBounds_toArray, List.set_cons_zero, List.set_cons_succ])
        refine wpAnyH_take (i := 8) (oi := _) (v := ?_) op_at8 (by kernel_rfl) (by kernel_rfl) (by kernel_rfl) (fun _ _ _ h => h) (Or.inl ⟨by rfl, ?_⟩) (by assumption) ?_
        rotate_left
        · intro w hSw
          (try dsimp only at hSw)
          go_simp
          (try with_reducible rfl)
        (try simp only [Act.put, List.setIfInBounds_toArray, List.set_cons_zero, List.set_cons_succ])
        refine wpAnyH_take (i := 9) (oi := _) (v := ?_) op_at9 (by kernel_rfl) (by kernel_rfl) (by kernel_rfl) (fun _ _ _ h => h) (Or.inl ⟨by rfl, ?_⟩) (by assumption) ?_
        rotate_left
        · intro w hSw
          (try dsimp only at hSw)
          go_simp
          (try with_reducible rfl)
        (try simp only [Act.put, List.setIfInBounds_toArray, List.set_cons_zero, List.set_cons_succ])
        refine wpAnyH_done (by kernel_rfl) ?_ _
        have hS3 : G1 (w.alloc (.cells #[.int .i64 g.k, .int .i64 g.a, .int .i64 g.b, .int .i64 g.c] 25)) w.heap.size g w3 := hHeld
        have Hb3 := Lib.hid (Hb0.out.trans (hS3.low.mono (by simp)))
        have hs3 := Hb3.out.size
        clear hbR hb3 hS hS3 hHeld c0 c1 c2 c3 H1 H3 Hq
        go_wp2_with fail
        go_returns
        exact ⟨⟨_, rfl, DSl.nil⟩, by have := Hb3.out; go_grown⟩
      · exact AllReadyH.nil
    · exact AllReadyH.nil
  · exact AllReadyH.nil
theorem agO_no {g : Gt} {l : List Dw} (h : agO g l = none) : agV g l = [] ∧ agB g l = false := ⟨by unfold agV; rw [h]; rfl, by unfold agB; rw [h]; rfl⟩
theorem sapG (B : Nat) (g : Gt) (v : Value) (l : List Dw) (w : World) (hv : DSl w B v l) (hm : l.length ≤ 1048576) :
    Calls Tryz.prog 7 #[(.agg #[.int .i64 g.k, .int .i64 g.a, .int .i64 g.b, .int .i64 g.c]), v] w fun e w' => (∃ r, e = .returned (.tuple #[r, .bool (agB g l)]) ∧ DSl w' w.heap.size r (agV g l)) ∧ Below w.heap.size w w' := by
  cases hst : stB l with
  | false =>
    have h := agO_no (g := g) (l := l) (by unfold agO; rw [hst]; rfl)
    rw [h.1, h.2]; exact sapG_no0 B g v l w hv hm hst
  | true =>
    cases hg : gtB g (qc l.length) with
    | false =>
      have h := agO_no (g := g) (l := l) (by unfold agO; rw [hst, hg]; rfl)
      rw [h.1, h.2]; exact sapG_no1 B g v l w hv hst hg
    | true => exact sapG_yes B g v l w hv hst hg
end Go.Proofs.YtkcpemkahkkcmaaGreat
namespace Go.Proofs.YtkcpemkahkkcmaaGreat
open Go.RowKit
theorem sendO_len {x : Dw} : ∀ {L : List (Nat × Dw)} {o o' : List Dw}, sendO x L o = some o' → o'.length = o.length
  | [], o, o', h => by injection h with h; rw [h]
  | p :: L, o, o', h => by
    rw [sendO] at h
    split at h
    · rw [sendO_len h, List.length_set]
    · cases h
theorem apO_len {G : Nat → List (Nat × Dw)} : ∀ {l : List Dw} {i : Nat} {o o' : List Dw}, apO G i l o = some o' → o'.length = o.length
  | [], i, o, o', h => by injection h with h; rw [h]
  | x :: l, i, o, o', h => by
    rw [apO] at h
    split at h
    · exact apO_len h
    · split at h
      · rename_i o2 h2
        rw [apO_len h, sendO_len h2]
      · cases h
theorem agV_len (g : Gt) (l : List Dw) : (agV g l).length ≤ l.length := by
  unfold agV
  cases h : agO g l with
  | none => exact Nat.zero_le _
  | some o =>
    unfold agO at h
    split at h
    · have := apO_len h
      rw [List.length_replicate] at this
      simp [this]
    · cases h
theorem flat_plain : ∀ l : List Dw, ∀ u ∈ flat l, u.oneCell' = true
  | [], u, h => by simp [flat] at h
  | x :: l, u, h => by
    rw [flat, List.mem_append] at h
    rcases h with h | h
    · exact fl_plain x u h
    · exact flat_plain l u h
attribute [local irreducible] World.cell?
end Go.Proofs.YtkcpemkahkkcmaaGreat
namespace Go.Proofs.YtkcpemkahkkcmaaGreat
open Go.RowKit
attribute [local irreducible] World.cell?
end Go.Proofs.YtkcpemkahkkcmaaGreat
