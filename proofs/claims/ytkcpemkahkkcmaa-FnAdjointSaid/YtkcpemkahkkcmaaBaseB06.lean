/- BaseB06: several of our texts in one: ApA ApKa ApP. -/
import Derived.Test.YtkcpemkahkkcmaaSnH
import Derived.Test.YtkcpemkahkkcmaaBaseB05
import Derived.Test.YtkcpemkahkkcmaaBaseB08
import Derived.Test.YtkcpemkahkkcmaaBaseB09
import Derived.Test.YtkcpemkahkkcmaaBaseB01
import Derived.OrdersHeld
import Derived.Test.YtkcpemkahkkcmaaBaseB07
import Derived.Test.YtkcpemkahkkcmaaPhF
import Derived.Test.YtkcpemkahkkcmaaBaseB16
namespace Go.Proofs.Ytkcpemkahkkcmaa
open Go.RowKit
/-- An amplitude sent to its places. -/
def sendO (x : Dw) : List (Nat × Dw) → List Dw → Option (List Dw)
  | [], o => some o
  | p :: r, o => if dMulB x p.2 && dAddB (o.getD p.1 .zero) (dMulV x p.2) then sendO x r (o.set p.1 (dAddV (o.getD p.1 .zero) (dMulV x p.2))) else none
/-- The amplitudes sent one by one. -/
def apO (G : Nat → List (Nat × Dw)) : Nat → List Dw → List Dw → Option (List Dw)
  | _, [], o => some o
  | i, x :: r, o => if x = .zero then apO G (i + 1) r o else match sendO x (G i) o with
    | some o' => apO G (i + 1) r o'
    | none => none
def goesG (g : Gt) (i : Nat) : List (Nat × Dw) := goesL g.k g.a.toNat g.b.toNat g.c.toNat i
def agO (g : Gt) (v : List Dw) : Option (List Dw) := if stB v && gtB g (qc v.length) then apO (goesG g) 0 v (List.replicate v.length .zero) else none
def agV (g : Gt) (v : List Dw) : List Dw := (agO g v).getD []
def agB (g : Gt) (v : List Dw) : Bool := (agO g v).isSome
/-- A gate's box. -/
def G1 (w : World) (b : Nat) (g : Gt) (w' : World) : Prop := w'.cell? ⟨b, 0, none⟩ = some (.int .i64 g.k) ∧ w'.cell? ⟨b, 1, none⟩ = some (.int .i64 g.a) ∧ w'.cell? ⟨b, 2, none⟩ = some (.int .i64 g.b) ∧ w'.cell? ⟨b, 3, none⟩ = some (.int .i64 g.c) ∧ b < w'.heap.size ∧ Below w.heap.size w w'
theorem G1.drew {w w' : World} {b : Nat} {g : Gt} (h : G1 w b g w') : G1 w b g w'.drew := let ⟨b0, b1, b2, b3, z, l⟩ := h; ⟨b0, b1, b2, b3, z, l.drew⟩
theorem G1.below {w w1 w2 : World} {b : Nat} {g : Gt} (h : G1 w b g w1) (hb : Below w1.heap.size w1 w2) : G1 w b g w2 :=
  let ⟨b0, b1, b2, b3, z, l⟩ := h; ⟨cell_below b0 hb z, cell_below b1 hb z, cell_below b2 hb z, cell_below b3 hb z, Nat.lt_of_lt_of_le z hb.size, below_up l hb l.size⟩
theorem G1.low {w w' : World} {b : Nat} {g : Gt} (h : G1 w b g w') : Below w.heap.size w w' := let ⟨_, _, _, _, _, l⟩ := h; l
attribute [local irreducible] World.cell?
set_option maxRecDepth 100000 in
set_option maxHeartbeats 3200000 in
theorem sapG_no0 (B : Nat) (g : Gt) (v : Value) (l : List Dw) (w : World) (hv : DSl w B v l) (hm : l.length ≤ 1048576) (hst : stB l = false) :
    Calls Try.prog 52 #[(.agg #[.int .i64 g.k, .int .i64 g.a, .int .i64 g.b, .int .i64 g.c]), v] w fun e w' => (∃ r, e = .returned (.tuple #[r, .bool false]) ∧ DSl w' w.heap.size r []) ∧ Below w.heap.size w w' := by
  have Hb0 := Lib.hid (show Below w.heap.size w (w.alloc (.cells #[.int .i64 g.k, .int .i64 g.a, .int .i64 g.b, .int .i64 g.c] 66)) by go_grown)
  have H1 := Lib.hid (svalidSt B v l (w.alloc (.cells #[.int .i64 g.k, .int .i64 g.a, .int .i64 g.b, .int .i64 g.c] 66)).drew ((hv.below ((Below.refl _ _).alloc (Nat.le_refl _) (.cells #[.int .i64 g.k, .int .i64 g.a, .int .i64 g.b, .int .i64 g.c] 66))).block fun _ _ _ => rfl) hm)
  obtain ⟨c0, c1, c2, c3⟩ := blk_cells (heap_alloc_new w (.cells #[.int .i64 g.k, .int .i64 g.a, .int .i64 g.b, .int .i64 g.c] 66))
  have hS : G1 (w.alloc (.cells #[.int .i64 g.k, .int .i64 g.a, .int .i64 g.b, .int .i64 g.c] 66)) w.heap.size g (w.alloc (.cells #[.int .i64 g.k, .int .i64 g.a, .int .i64 g.b, .int .i64 g.c] 66)) := ⟨c0, c1, c2, c3, by simp, Below.refl _ _⟩
  rw [hst] at H1
  clear hst hv
  go_enter Try.func52, Try.ntmps52
  go_upto_region 1 with fail
  refine wp_region_held_drew (S := (fun w' => w'.cell? ⟨w.heap.size, 0, none⟩ = some (.int .i64 g.k) ∧ w'.cell? ⟨w.heap.size, 1, none⟩ = some (.int .i64 g.a) ∧ w'.cell? ⟨w.heap.size, 2, none⟩ = some (.int .i64 g.b) ∧ w'.cell? ⟨w.heap.size, 3, none⟩ = some (.int .i64 g.c) ∧ w.heap.size < w'.heap.size ∧ Below (w.alloc (.cells #[.int .i64 g.k, .int .i64 g.a, .int .i64 g.b, .int .i64 g.c] 66)).heap.size (w.alloc (.cells #[.int .i64 g.k, .int .i64 g.a, .int .i64 g.b, .int .i64 g.c] 66)) w')) (by kernel_rfl) ?_ (fun hHeld => ?_)
  · exact hS.drew
  refine wpAnyH_take (i := 0) (oi := _) (v := ?_) op_at0 (by kernel_rfl) (by kernel_rfl) (by kernel_rfl) (fun _ _ _ h => h) (Or.inl ⟨by rfl, ?_⟩) (by assumption) ?_
  rotate_left
  · intro w hSw
    (try dsimp only at hSw)
    go_simp
    (try with_reducible rfl)
  (try simp only [Act.put, List.setIfInBounds_toArray, List.set_cons_zero, List.set_cons_succ])
  refine wpAnyH_ready (rs := [1]) (by kernel_rfl) (by simp) ?_
  refine AllReadyH.cons (o := _) op_at1 (fun K hK => ?_) ?_
  · go_simp
    refine (H1.out).mono ?_
    rintro e wR ⟨rfl, hbR⟩
    go_wp2_with fail
    refine hK.out _ _ ?_ (fun hHeld => ?_)
    · exact hS.drew.below hbR
    clear hK K
    (try simp only [Act.put, List.setIfInBounds_toArray, List.set_cons_zero, List.set_cons_succ])
    refine wpAnyH_take (i := 2) (oi := _) (v := ?_) op_at2 (by kernel_rfl) (by kernel_rfl) (by kernel_rfl) (fun _ _ _ h => h) (Or.inl ⟨by rfl, ?_⟩) (by assumption) ?_
    rotate_left
    · intro w hSw
      (try dsimp only at hSw)
      go_simp
      (try with_reducible rfl)
    (try simp only [Act.put, List.setIfInBounds_toArray, List.set_cons_zero, List.set_cons_succ])
    refine wpAnyH_take (i := 3) (oi := _) (v := ?_) op_at3 (by kernel_rfl) (by kernel_rfl) (by kernel_rfl) (fun _ _ _ h => h) (Or.inl ⟨by rfl, ?_⟩) (by assumption) ?_
    rotate_left
    · intro w hSw
      (try dsimp only at hSw)
      go_simp
      (try with_reducible rfl)
    (try simp only [Act.put, List.setIfInBounds_toArray, List.set_cons_zero, List.set_cons_succ])
    refine wpAnyH_take (i := 4) (oi := _) (v := undef) op_at4 (by kernel_rfl) (by kernel_rfl) (by kernel_rfl) (fun _ _ _ h => h) (Or.inr ⟨by rfl, rfl⟩) (by assumption) ?_
    (try simp only [Act.put, List.setIfInBounds_toArray, List.set_cons_zero, List.set_cons_succ])
    refine wpAnyH_take (i := 5) (oi := _) (v := undef) op_at5 (by kernel_rfl) (by kernel_rfl) (by kernel_rfl) (fun _ _ _ h => h) (Or.inr ⟨by rfl, rfl⟩) (by assumption) ?_
    (try simp only [Act.put, List.setIfInBounds_toArray, List.set_cons_zero, List.set_cons_succ])
    refine wpAnyH_take (i := 6) (oi := _) (v := undef) op_at6 (by kernel_rfl) (by kernel_rfl) (by kernel_rfl) (fun _ _ _ h => h) (Or.inr ⟨by rfl, rfl⟩) (by assumption) ?_
    (try simp only [Act.put, List.setIfInBounds_toArray, List.set_cons_zero, List.set_cons_succ])
    refine wpAnyH_take (i := 7) (oi := _) (v := undef) op_at7 (by kernel_rfl) (by kernel_rfl) (by kernel_rfl) (fun _ _ _ h => h) (Or.inr ⟨by rfl, rfl⟩) (by assumption) ?_
    (try simp only [Act.put, List.setIfInBounds_toArray, List.set_cons_zero, List.set_cons_succ])
    refine wpAnyH_take (i := 8) (oi := _) (v := undef) op_at8 (by kernel_rfl) (by kernel_rfl) (by kernel_rfl) (fun _ _ _ h => h) (Or.inr ⟨by rfl, rfl⟩) (by assumption) ?_
    (try simp only [Act.put, List.setIfInBounds_toArray, List.set_cons_zero, List.set_cons_succ])
    refine wpAnyH_take (i := 9) (oi := _) (v := ?_) op_at9 (by kernel_rfl) (by kernel_rfl) (by kernel_rfl) (fun _ _ _ h => h) (Or.inl ⟨by rfl, ?_⟩) (by assumption) ?_
    rotate_left
    · intro w hSw
      (try dsimp only at hSw)
      go_simp
      (try with_reducible rfl)
    (try simp only [Act.put, List.setIfInBounds_toArray, List.set_cons_zero, List.set_cons_succ])
    refine wpAnyH_done (by kernel_rfl) ?_ _
    have Hb1 := Lib.hid (below_nx Hb0.out.drew hbR)
    have hs1 := Hb1.out.size
    clear hbR
    go_wp2_with fail
    go_returns
    exact ⟨⟨_, rfl, DSl.nil⟩, by have := Hb1.out; go_grown⟩
  · exact AllReadyH.nil
end Go.Proofs.Ytkcpemkahkkcmaa
namespace Go.Proofs.Ytkcpemkahkkcmaa
open Go.RowKit
/-- A contribution, six cells. -/
def contE : Enc (Nat × Dw) := ⟨fun p => .int .i64 (p.1 : Int) :: fl p.2, 6, 122, fun _ => rfl, fun x u h => by
  rw [List.mem_cons] at h
  rcases h with rfl | h
  · rfl
  · simp [fl] at h; rcases h with rfl | rfl | rfl | rfl | rfl <;> rfl⟩
theorem new_cont (w : World) (i : Nat) (x : Dw) : contE.Sl (w.alloc (.cells #[.int .i64 (i : Int), .int .i64 x.n.a, .int .i64 x.n.b, .int .i64 x.n.c, .int .i64 x.n.d, .int .i64 x.e] 122)) w.heap.size (.slice (some ⟨w.heap.size, 0, none⟩) 1 1) [(i, x)] :=
  Enc.Sl.mk rfl (Nat.le_refl _) (Nat.le_refl _) ⟨_, heap_alloc_new w _, rfl⟩
theorem new_cont2 (w : World) (i j : Nat) (x y : Dw) : contE.Sl (w.alloc (.cells #[.int .i64 (i : Int), .int .i64 x.n.a, .int .i64 x.n.b, .int .i64 x.n.c, .int .i64 x.n.d, .int .i64 x.e, .int .i64 (j : Int), .int .i64 y.n.a, .int .i64 y.n.b, .int .i64 y.n.c, .int .i64 y.n.d, .int .i64 y.e] 122)) w.heap.size (.slice (some ⟨w.heap.size, 0, none⟩) 2 2) [(i, x), (j, y)] :=
  Enc.Sl.mk rfl (Nat.le_refl _) (Nat.le_refl _) ⟨_, heap_alloc_new w _, rfl⟩
def bI (b : Bool) : Int := if b then 1 else 0
theorem bI_all : ∀ i : Fin 16, ∀ q : Fin 4, bits .and .i64 (((i.val : Nat) : Int) / 2 ^ q.val) 1 = bI (bitN i.val q.val) := by decide +kernel
theorem ibit {i q : Nat} (hi : i < 16) (hq : q < 4) {b : Bool} (hb : bitN i q = b) (w : World) :
    Calls Try.prog 86 #[.int .i64 (i : Int), .int .i64 (q : Int)] w fun e w' => e = .returned (.int .i64 (bI b)) ∧ w = w' := by
  rw [← hb, ← show _ = bI (bitN i q) from bI_all ⟨i, hi⟩ ⟨q, hq⟩]
  exact ibitOf i q w (by omega)
attribute [local irreducible] World.cell?
set_option maxRecDepth 100000 in
set_option maxHeartbeats 1600000 in
theorem imove {x k : Int} {J : Nat} {P : Dw} (hx : x = (J : Int)) (hk : dPh k = P) (w : World) :
    Calls Try.prog 176 #[.int .i64 x, .int .i64 k] w fun e w' => ∃ v, e = .returned v ∧ contE.Sl w' w.heap.size v [(J, P)] ∧ Below w.heap.size w w' := by
  subst hx
  have H := Lib.hid (show ∀ W, Calls Try.prog 198 #[.int .i64 k] W fun e w' => e = .returned (.agg #[.int .i64 P.n.a, .int .i64 P.n.b, .int .i64 P.n.c, .int .i64 P.n.d, .int .i64 P.e]) ∧ Below W.heap.size W w' from fun W => by
    have h := iphase_at k (k % 8).toNat W (by omega)
    rw [← hk]
    exact h)
  clear hk
  go_enter Try.func176, Try.ntmps176
  go_wp2_with fail
  refine (H.out _).mono ?_
  rintro e w1 ⟨rfl, hb1⟩
  have Hs := Lib.hid ((new_cont w1 J P).mono hb1.size)
  have Hb1 := Lib.hid hb1
  have hs1 := hb1.size
  clear hb1
  go_wp2_with fail
  go_ret
  exact ⟨_, rfl, Hs.out, by have := Hb1.out; go_grown⟩
set_option maxRecDepth 100000 in
set_option maxHeartbeats 3200000 in
theorem iflip (k : Int) (A B C i : Nat) (w : World) (hA : A < 4) (_ : B < 4) (_ : C < 4) (hi : i < 16) :
    Calls Try.prog 147 #[(.agg #[.int .i64 ((Gt.mk k A B C)).k, .int .i64 ((Gt.mk k A B C)).a, .int .i64 ((Gt.mk k A B C)).b, .int .i64 ((Gt.mk k A B C)).c]), .int .i64 i] w fun e w' => ∃ v, e = .returned v ∧ contE.Sl w' w.heap.size v [(flipN i A, dPh 0)] ∧ Below w.heap.size w w' := by
  have HX := Lib.hid (heap_alloc_new w (.cells #[.int .i64 ((Gt.mk k A B C)).k, .int .i64 ((Gt.mk k A B C)).a, .int .i64 ((Gt.mk k A B C)).b, .int .i64 ((Gt.mk k A B C)).c] 66))
  obtain ⟨c0, c1, c2, c3⟩ := blk_cells HX.out
  have hS : G1 w w.heap.size (Gt.mk k A B C) (w.alloc (.cells #[.int .i64 ((Gt.mk k A B C)).k, .int .i64 ((Gt.mk k A B C)).a, .int .i64 ((Gt.mk k A B C)).b, .int .i64 ((Gt.mk k A B C)).c] 66)) := ⟨c0, c1, c2, c3, by simp, by go_grown⟩
  have Hb0 := Lib.hid (show Below w.heap.size w (w.alloc (.cells #[.int .i64 ((Gt.mk k A B C)).k, .int .i64 ((Gt.mk k A B C)).a, .int .i64 ((Gt.mk k A B C)).b, .int .i64 ((Gt.mk k A B C)).c] 66)) by go_grown)
  have H := Lib.hid (fun W => imove (x := bits .xor .i64 (i : Int) (wrap64 (2 ^ A))) (k := 0) (flip_bits hi hA) rfl W)
  generalize flipN i A = j at *
  go_enter Try.func147, Try.ntmps147
  go_wp2_with fail
  refine (H.out _).mono ?_
  rintro e w1 ⟨v, rfl, hd, hb1⟩
  have Hd := Lib.hid (hd.mono (C := w.heap.size) (by simp))
  have Hb1 := Lib.hid (below_nx Hb0.out hb1)
  clear hd hb1
  go_wp2_with fail
  go_ret
  exact ⟨_, rfl, Hd.out, Hb1.out⟩
theorem flipW : ∀ i : Fin 16, ∀ q : Fin 4, bits .xor .i64 ((i.val : Nat) : Int) (IntKind.i64.wrap (2 ^ q.val)) = ((flipN i.val q.val : Nat) : Int) := by decide +kernel
theorem turnW : ∀ a : Bool, dPh (IntKind.i64.wrap (2 + IntKind.i64.wrap (4 * bI a))) = dPh (if a then 6 else 2) := by decide +kernel
theorem oneW : ∀ i : Fin 16, ∀ q r : Fin 4, bits .xor .i64 ((i.val : Nat) : Int) (IntKind.i64.wrap (bI (bitN i.val q.val) * 2 ^ r.val)) = ((if bitN i.val q.val then flipN i.val r.val else i.val : Nat) : Int) := by decide +kernel
theorem bothW : ∀ a b : Bool, dPh (IntKind.i64.wrap (4 * bits .and .i64 (bI a) (bI b))) = if (a && b) then dPh 4 else dPh 0 := by decide +kernel
theorem ccW : ∀ i : Fin 16, ∀ a b : Bool, ∀ r : Fin 4, bits .xor .i64 ((i.val : Nat) : Int) (IntKind.i64.wrap (bits .and .i64 (bI a) (bI b) * 2 ^ r.val)) = ((if (a && b) then flipN i.val r.val else i.val : Nat) : Int) := by decide +kernel
theorem exW : ∀ i : Fin 16, ∀ a b : Bool, ∀ q r : Fin 4, bits .xor .i64 (bits .xor .i64 ((i.val : Nat) : Int) (IntKind.i64.wrap (bits .xor .i64 (bI a) (bI b) * 2 ^ q.val))) (IntKind.i64.wrap (bits .xor .i64 (bI a) (bI b) * 2 ^ r.val)) = ((if a != b then flipN (flipN i.val q.val) r.val else i.val : Nat) : Int) := by decide +kernel
theorem unitW : ∀ a : Bool, (∀ u ∈ [(4 : Int), 2, 1], dPh (IntKind.i64.wrap (u * bI a)) = if a then dPh u else dPh 0) ∧ dPh (IntKind.i64.wrap (-2 * bI a)) = (if a then dPh 6 else dPh 0) ∧ dPh (IntKind.i64.wrap (-1 * bI a)) = if a then dPh 7 else dPh 0 := by decide +kernel
set_option maxRecDepth 100000 in
set_option maxHeartbeats 3200000 in
theorem iflipT (k : Int) (A B C i : Nat) (w : World) (hA : A < 4) (_ : B < 4) (_ : C < 4) (hi : i < 16) :
    Calls Try.prog 148 #[(.agg #[.int .i64 ((Gt.mk k A B C)).k, .int .i64 ((Gt.mk k A B C)).a, .int .i64 ((Gt.mk k A B C)).b, .int .i64 ((Gt.mk k A B C)).c]), .int .i64 i] w fun e w' => ∃ v, e = .returned v ∧ contE.Sl w' w.heap.size v [(flipN i A, dPh (if bitN i A then 6 else 2))] ∧ Below w.heap.size w w' := by
  have HX := Lib.hid (heap_alloc_new w (.cells #[.int .i64 ((Gt.mk k A B C)).k, .int .i64 ((Gt.mk k A B C)).a, .int .i64 ((Gt.mk k A B C)).b, .int .i64 ((Gt.mk k A B C)).c] 66))
  obtain ⟨c0, c1, c2, c3⟩ := blk_cells HX.out
  have hS : G1 w w.heap.size (Gt.mk k A B C) (w.alloc (.cells #[.int .i64 ((Gt.mk k A B C)).k, .int .i64 ((Gt.mk k A B C)).a, .int .i64 ((Gt.mk k A B C)).b, .int .i64 ((Gt.mk k A B C)).c] 66)) := ⟨c0, c1, c2, c3, by simp, by go_grown⟩
  have Hb0 := Lib.hid (show Below w.heap.size w (w.alloc (.cells #[.int .i64 ((Gt.mk k A B C)).k, .int .i64 ((Gt.mk k A B C)).a, .int .i64 ((Gt.mk k A B C)).b, .int .i64 ((Gt.mk k A B C)).c] 66)) by go_grown)
  have Hba := Lib.hid (fun W => ibit (i := i) (q := A) hi hA rfl W)
  have hx := flipW ⟨i, hi⟩ ⟨A, hA⟩
  have hk := turnW (bitN i A)
  generalize flipN i A = j at *
  generalize dPh (if bitN i A = true then 6 else 2) = P at *
  generalize bI (bitN i A) = ba at *
  go_enter Try.func148, Try.ntmps148
  go_upto_region 1 with fail
  go_region_held3 (fun w' => w'.cell? ⟨w.heap.size, 0, none⟩ = some (.int .i64 k) ∧ w'.cell? ⟨w.heap.size, 1, none⟩ = some (.int .i64 (A : Int)) ∧ w'.cell? ⟨w.heap.size, 2, none⟩ = some (.int .i64 (B : Int)) ∧ w'.cell? ⟨w.heap.size, 3, none⟩ = some (.int .i64 (C : Int)) ∧ w.heap.size < w'.heap.size ∧ Below w.heap.size w w') (first | (show G1 w w.heap.size (Gt.mk k A B C) _; (with_reducible exact hS.drew)) | (show G1 w w.heap.size (Gt.mk k A B C) _; (with_reducible refine G1.below ?_ hbR); first | assumption | exact ⟨by assumption, by assumption, by assumption, by assumption, by assumption, by assumption⟩))
    (first | (go_at_call 86; refine (Hba.out _).mono ?_; rintro e wR ⟨rfl, rfl⟩) | (go_at_call 176; refine (imove (J := j) (P := P) (by first | assumption | rfl) (by first | assumption | rfl) _).mono ?_; rintro e wQ ⟨v, rfl, hd, hbM⟩; have HD := Lib.hid hd; have hbR := hbM))
  all_goals
    have Hd := Lib.hid (HD.out.mono (C := w.heap.size) (by simp))
    have Hb1 := Lib.hid (below_nx Hb0.out.drew hbM)
  all_goals go_wp2_with fail
  all_goals go_ret
  all_goals exact ⟨_, rfl, Hd.out, Hb1.out⟩
set_option maxRecDepth 100000 in
set_option maxHeartbeats 3200000 in
theorem iflipO (k : Int) (A B C i : Nat) (w : World) (hA : A < 4) (hB : B < 4) (_ : C < 4) (hi : i < 16) :
    Calls Try.prog 151 #[(.agg #[.int .i64 ((Gt.mk k A B C)).k, .int .i64 ((Gt.mk k A B C)).a, .int .i64 ((Gt.mk k A B C)).b, .int .i64 ((Gt.mk k A B C)).c]), .int .i64 i] w fun e w' => ∃ v, e = .returned v ∧ contE.Sl w' w.heap.size v [(if bitN i A then flipN i B else i, dPh 0)] ∧ Below w.heap.size w w' := by
  have HX := Lib.hid (heap_alloc_new w (.cells #[.int .i64 ((Gt.mk k A B C)).k, .int .i64 ((Gt.mk k A B C)).a, .int .i64 ((Gt.mk k A B C)).b, .int .i64 ((Gt.mk k A B C)).c] 66))
  obtain ⟨c0, c1, c2, c3⟩ := blk_cells HX.out
  have hS : G1 w w.heap.size (Gt.mk k A B C) (w.alloc (.cells #[.int .i64 ((Gt.mk k A B C)).k, .int .i64 ((Gt.mk k A B C)).a, .int .i64 ((Gt.mk k A B C)).b, .int .i64 ((Gt.mk k A B C)).c] 66)) := ⟨c0, c1, c2, c3, by simp, by go_grown⟩
  have Hb0 := Lib.hid (show Below w.heap.size w (w.alloc (.cells #[.int .i64 ((Gt.mk k A B C)).k, .int .i64 ((Gt.mk k A B C)).a, .int .i64 ((Gt.mk k A B C)).b, .int .i64 ((Gt.mk k A B C)).c] 66)) by go_grown)
  have Hba := Lib.hid (fun W => ibit (i := i) (q := A) hi hA rfl W)
  have hx := oneW ⟨i, hi⟩ ⟨A, hA⟩ ⟨B, hB⟩
  generalize (if bitN i A = true then flipN i B else i) = j at *
  obtain ⟨P, hP⟩ : ∃ P, dPh 0 = P := ⟨_, rfl⟩
  rw [hP]
  generalize bI (bitN i A) = ba at *
  go_enter Try.func151, Try.ntmps151
  go_upto_region 1 with fail
  go_region_held3 (fun w' => w'.cell? ⟨w.heap.size, 0, none⟩ = some (.int .i64 k) ∧ w'.cell? ⟨w.heap.size, 1, none⟩ = some (.int .i64 (A : Int)) ∧ w'.cell? ⟨w.heap.size, 2, none⟩ = some (.int .i64 (B : Int)) ∧ w'.cell? ⟨w.heap.size, 3, none⟩ = some (.int .i64 (C : Int)) ∧ w.heap.size < w'.heap.size ∧ Below w.heap.size w w') (first | (show G1 w w.heap.size (Gt.mk k A B C) _; (with_reducible exact hS.drew)) | (show G1 w w.heap.size (Gt.mk k A B C) _; (with_reducible refine G1.below ?_ hbR); first | assumption | exact ⟨by assumption, by assumption, by assumption, by assumption, by assumption, by assumption⟩))
    (first | (go_at_call 86; refine (Hba.out _).mono ?_; rintro e wR ⟨rfl, rfl⟩) | (go_at_call 176; refine (imove (J := j) (P := P) (by first | assumption | rfl) (by first | assumption | rfl) _).mono ?_; rintro e wQ ⟨v, rfl, hd, hbM⟩; have HD := Lib.hid hd; have hbR := hbM))
  all_goals
    have Hd := Lib.hid (HD.out.mono (C := w.heap.size) (by simp))
    have Hb1 := Lib.hid (below_nx Hb0.out.drew hbM)
  all_goals go_wp2_with fail
  all_goals go_ret
  all_goals exact ⟨_, rfl, Hd.out, Hb1.out⟩
set_option maxRecDepth 100000 in
set_option maxHeartbeats 3200000 in
theorem iturnB (k : Int) (A B C i : Nat) (w : World) (hA : A < 4) (hB : B < 4) (_ : C < 4) (hi : i < 16) :
    Calls Try.prog 152 #[(.agg #[.int .i64 ((Gt.mk k A B C)).k, .int .i64 ((Gt.mk k A B C)).a, .int .i64 ((Gt.mk k A B C)).b, .int .i64 ((Gt.mk k A B C)).c]), .int .i64 i] w fun e w' => ∃ v, e = .returned v ∧ contE.Sl w' w.heap.size v [(i, if (bitN i A && bitN i B) then dPh 4 else dPh 0)] ∧ Below w.heap.size w w' := by
  have HX := Lib.hid (heap_alloc_new w (.cells #[.int .i64 ((Gt.mk k A B C)).k, .int .i64 ((Gt.mk k A B C)).a, .int .i64 ((Gt.mk k A B C)).b, .int .i64 ((Gt.mk k A B C)).c] 66))
  obtain ⟨c0, c1, c2, c3⟩ := blk_cells HX.out
  have hS : G1 w w.heap.size (Gt.mk k A B C) (w.alloc (.cells #[.int .i64 ((Gt.mk k A B C)).k, .int .i64 ((Gt.mk k A B C)).a, .int .i64 ((Gt.mk k A B C)).b, .int .i64 ((Gt.mk k A B C)).c] 66)) := ⟨c0, c1, c2, c3, by simp, by go_grown⟩
  have Hb0 := Lib.hid (show Below w.heap.size w (w.alloc (.cells #[.int .i64 ((Gt.mk k A B C)).k, .int .i64 ((Gt.mk k A B C)).a, .int .i64 ((Gt.mk k A B C)).b, .int .i64 ((Gt.mk k A B C)).c] 66)) by go_grown)
  have Hba := Lib.hid (fun W => ibit (i := i) (q := A) hi hA rfl W)
  have Hbb := Lib.hid (fun W => ibit (i := i) (q := B) hi hB rfl W)
  have hk := bothW (bitN i A) (bitN i B)
  generalize (if (bitN i A && bitN i B) = true then dPh 4 else dPh 0) = P at *
  generalize bI (bitN i A) = ba at *
  generalize bI (bitN i B) = bb at *
  go_enter Try.func152, Try.ntmps152
  go_upto_region 1 with fail
  go_region_held3 (fun w' => w'.cell? ⟨w.heap.size, 0, none⟩ = some (.int .i64 k) ∧ w'.cell? ⟨w.heap.size, 1, none⟩ = some (.int .i64 (A : Int)) ∧ w'.cell? ⟨w.heap.size, 2, none⟩ = some (.int .i64 (B : Int)) ∧ w'.cell? ⟨w.heap.size, 3, none⟩ = some (.int .i64 (C : Int)) ∧ w.heap.size < w'.heap.size ∧ Below w.heap.size w w') (first | (show G1 w w.heap.size (Gt.mk k A B C) _; (with_reducible exact hS.drew)) | (show G1 w w.heap.size (Gt.mk k A B C) _; (with_reducible refine G1.below ?_ hbR); first | assumption | exact ⟨by assumption, by assumption, by assumption, by assumption, by assumption, by assumption⟩))
    (first | (go_at_call 86; refine (Hba.out _).mono ?_; rintro e wR ⟨rfl, rfl⟩) | (go_at_call 86; refine (Hbb.out _).mono ?_; rintro e wR ⟨rfl, rfl⟩) | (go_at_call 176; refine (imove (J := i) (P := P) (by first | assumption | rfl) (by first | assumption | rfl) _).mono ?_; rintro e wQ ⟨v, rfl, hd, hbM⟩; have HD := Lib.hid hd; have hbR := hbM))
  all_goals
    have Hd := Lib.hid (HD.out.mono (C := w.heap.size) (by simp))
    have Hb1 := Lib.hid (below_nx Hb0.out.drew hbM)
  all_goals go_wp2_with fail
  all_goals go_ret
  all_goals exact ⟨_, rfl, Hd.out, Hb1.out⟩
set_option maxRecDepth 100000 in
set_option maxHeartbeats 3200000 in
theorem iflipB (k : Int) (A B C i : Nat) (w : World) (hA : A < 4) (hB : B < 4) (hC : C < 4) (hi : i < 16) :
    Calls Try.prog 154 #[(.agg #[.int .i64 ((Gt.mk k A B C)).k, .int .i64 ((Gt.mk k A B C)).a, .int .i64 ((Gt.mk k A B C)).b, .int .i64 ((Gt.mk k A B C)).c]), .int .i64 i] w fun e w' => ∃ v, e = .returned v ∧ contE.Sl w' w.heap.size v [(if (bitN i A && bitN i B) then flipN i C else i, dPh 0)] ∧ Below w.heap.size w w' := by
  have HX := Lib.hid (heap_alloc_new w (.cells #[.int .i64 ((Gt.mk k A B C)).k, .int .i64 ((Gt.mk k A B C)).a, .int .i64 ((Gt.mk k A B C)).b, .int .i64 ((Gt.mk k A B C)).c] 66))
  obtain ⟨c0, c1, c2, c3⟩ := blk_cells HX.out
  have hS : G1 w w.heap.size (Gt.mk k A B C) (w.alloc (.cells #[.int .i64 ((Gt.mk k A B C)).k, .int .i64 ((Gt.mk k A B C)).a, .int .i64 ((Gt.mk k A B C)).b, .int .i64 ((Gt.mk k A B C)).c] 66)) := ⟨c0, c1, c2, c3, by simp, by go_grown⟩
  have Hb0 := Lib.hid (show Below w.heap.size w (w.alloc (.cells #[.int .i64 ((Gt.mk k A B C)).k, .int .i64 ((Gt.mk k A B C)).a, .int .i64 ((Gt.mk k A B C)).b, .int .i64 ((Gt.mk k A B C)).c] 66)) by go_grown)
  have Hba := Lib.hid (fun W => ibit (i := i) (q := A) hi hA rfl W)
  have Hbb := Lib.hid (fun W => ibit (i := i) (q := B) hi hB rfl W)
  have hx := ccW ⟨i, hi⟩ (bitN i A) (bitN i B) ⟨C, hC⟩
  generalize (if (bitN i A && bitN i B) = true then flipN i C else i) = j at *
  obtain ⟨P, hP⟩ : ∃ P, dPh 0 = P := ⟨_, rfl⟩
  rw [hP]
  generalize bI (bitN i A) = ba at *
  generalize bI (bitN i B) = bb at *
  go_enter Try.func154, Try.ntmps154
  go_upto_region 1 with fail
  go_region_held3 (fun w' => w'.cell? ⟨w.heap.size, 0, none⟩ = some (.int .i64 k) ∧ w'.cell? ⟨w.heap.size, 1, none⟩ = some (.int .i64 (A : Int)) ∧ w'.cell? ⟨w.heap.size, 2, none⟩ = some (.int .i64 (B : Int)) ∧ w'.cell? ⟨w.heap.size, 3, none⟩ = some (.int .i64 (C : Int)) ∧ w.heap.size < w'.heap.size ∧ Below w.heap.size w w') (first | (show G1 w w.heap.size (Gt.mk k A B C) _; (with_reducible exact hS.drew)) | (show G1 w w.heap.size (Gt.mk k A B C) _; (with_reducible refine G1.below ?_ hbR); first | assumption | exact ⟨by assumption, by assumption, by assumption, by assumption, by assumption, by assumption⟩))
    (first | (go_at_call 86; refine (Hba.out _).mono ?_; rintro e wR ⟨rfl, rfl⟩) | (go_at_call 86; refine (Hbb.out _).mono ?_; rintro e wR ⟨rfl, rfl⟩) | (go_at_call 176; refine (imove (J := j) (P := P) (by first | assumption | rfl) (by first | assumption | rfl) _).mono ?_; rintro e wQ ⟨v, rfl, hd, hbM⟩; have HD := Lib.hid hd; have hbR := hbM))
  all_goals
    have Hd := Lib.hid (HD.out.mono (C := w.heap.size) (by simp))
    have Hb1 := Lib.hid (below_nx Hb0.out.drew hbM)
  all_goals go_wp2_with fail
  all_goals go_ret
  all_goals exact ⟨_, rfl, Hd.out, Hb1.out⟩
end Go.Proofs.Ytkcpemkahkkcmaa
namespace Go.Proofs.Ytkcpemkahkkcmaa
open Go.RowKit
theorem sgoesG (g : Gt) (i : Nat) (w : World) (hk : 1 ≤ g.k ∧ g.k ≤ 12) (ha : 0 ≤ g.a ∧ g.a < 4) (hb : 0 ≤ g.b ∧ g.b < 4) (hc : 0 ≤ g.c ∧ g.c < 4) (hi : i < 16) :
    Calls Try.prog 100 #[(.agg #[.int .i64 g.k, .int .i64 g.a, .int .i64 g.b, .int .i64 g.c]), .int .i64 i] w fun e w' => ∃ v, e = .returned v ∧ sentE.Sl w' w.heap.size v (goesG g i) ∧ Below w.heap.size w w' := by
  obtain ⟨k, a, b, c⟩ := g
  obtain ⟨A, rfl⟩ := Int.eq_ofNat_of_zero_le ha.1
  obtain ⟨B, rfl⟩ := Int.eq_ofNat_of_zero_le hb.1
  obtain ⟨C, rfl⟩ := Int.eq_ofNat_of_zero_le hc.1
  exact sgoes k A B C i w hk.1 hk.2 (by have := ha.2; simp at this; omega) (by have := hb.2; simp at this; omega) (by have := hc.2; simp at this; omega) hi
theorem flip_in1 : ∀ i : Fin 2, ∀ q : Fin 1, flipN i.val q.val < 2 := by decide +kernel
theorem flip_in2 : ∀ i : Fin 4, ∀ q : Fin 2, flipN i.val q.val < 4 := by decide +kernel
theorem flip_in3 : ∀ i : Fin 8, ∀ q : Fin 3, flipN i.val q.val < 8 := by decide +kernel
theorem flip_in {n N i q : Nat} (hN : (n = 1 ∧ N = 2) ∨ (n = 2 ∧ N = 4) ∨ (n = 3 ∧ N = 8) ∨ (n = 4 ∧ N = 16)) (hi : i < N) (hq : q < n) : flipN i q < N := by
  rcases hN with ⟨rfl, rfl⟩ | ⟨rfl, rfl⟩ | ⟨rfl, rfl⟩ | ⟨rfl, rfl⟩
  · exact flip_in1 ⟨i, hi⟩ ⟨q, hq⟩
  · exact flip_in2 ⟨i, hi⟩ ⟨q, hq⟩
  · exact flip_in3 ⟨i, hi⟩ ⟨q, hq⟩
  · exact flip_lt ⟨i, hi⟩ ⟨q, hq⟩
theorem goes_in {n N : Nat} (hN : (n = 1 ∧ N = 2) ∨ (n = 2 ∧ N = 4) ∨ (n = 3 ∧ N = 8) ∨ (n = 4 ∧ N = 16)) {k : Int} {A B C i : Nat} (hA : A < n) (hB : B < n) (hC : C < n) (hi : i < N) : ∀ p ∈ goesL k A B C i, p.1 < N := by
  have fA := flip_in hN hi hA
  have fB := flip_in hN hi hB
  have fC := flip_in hN hi hC
  have fAB := flip_in hN fA hB
  have hl : lowN i A < N := by unfold lowN; split; exact fA; exact hi
  have fl' := flip_in hN hl hA
  have one : ∀ {a : Nat} {d : Dw} {p : Nat × Dw}, a < N → p ∈ [(a, d)] → p.1 < N := fun h hp => by rw [List.mem_singleton.1 hp]; exact h
  have ite : ∀ {a b : Nat} {t : Prop} [Decidable t], a < N → b < N → (if t then a else b) < N := fun ha hb => by split <;> assumption
  intro p hp
  unfold goesL at hp
  by_cases h1 : k = 1
  · rw [if_pos h1] at hp
    exact one (ite fA hi) hp
  rw [if_neg h1] at hp
  by_cases h2 : k = 2
  · rw [if_pos h2] at hp
    exact one (fA) hp
  rw [if_neg h2] at hp
  by_cases h3 : k = 3
  · rw [if_pos h3] at hp
    exact one (hi) hp
  rw [if_neg h3] at hp
  by_cases h5 : k = 5
  · rw [if_pos h5] at hp
    exact one (hi) hp
  rw [if_neg h5] at hp
  by_cases h6 : k = 6
  · rw [if_pos h6] at hp
    exact one (hi) hp
  rw [if_neg h6] at hp
  by_cases h7 : k = 7
  · rw [if_pos h7] at hp
    exact one (hi) hp
  rw [if_neg h7] at hp
  by_cases h8 : k = 8
  · rw [if_pos h8] at hp
    exact one (hi) hp
  rw [if_neg h8] at hp
  by_cases h9 : k = 9
  · rw [if_pos h9] at hp
    exact one (ite fB hi) hp
  rw [if_neg h9] at hp
  by_cases h10 : k = 10
  · rw [if_pos h10] at hp
    exact one (hi) hp
  rw [if_neg h10] at hp
  by_cases h12 : k = 12
  · rw [if_pos h12] at hp
    exact one (ite fC hi) hp
  rw [if_neg h12] at hp
  by_cases h11 : k = 11
  · rw [if_pos h11] at hp
    exact one (ite fAB hi) hp
  rw [if_neg h11] at hp
  rcases List.mem_cons.1 hp with rfl | hp
  · exact hl
  · exact one fl' hp
theorem goes_len {g : Gt} {i : Nat} : (goesG g i).length ≤ 2 := by
  unfold goesG goesL
  by_cases h1 : g.k = 1
  · rw [if_pos h1]; exact Nat.le_succ 1
  rw [if_neg h1]
  by_cases h2 : g.k = 2
  · rw [if_pos h2]; exact Nat.le_succ 1
  rw [if_neg h2]
  by_cases h3 : g.k = 3
  · rw [if_pos h3]; exact Nat.le_succ 1
  rw [if_neg h3]
  by_cases h5 : g.k = 5
  · rw [if_pos h5]; exact Nat.le_succ 1
  rw [if_neg h5]
  by_cases h6 : g.k = 6
  · rw [if_pos h6]; exact Nat.le_succ 1
  rw [if_neg h6]
  by_cases h7 : g.k = 7
  · rw [if_pos h7]; exact Nat.le_succ 1
  rw [if_neg h7]
  by_cases h8 : g.k = 8
  · rw [if_pos h8]; exact Nat.le_succ 1
  rw [if_neg h8]
  by_cases h9 : g.k = 9
  · rw [if_pos h9]; exact Nat.le_succ 1
  rw [if_neg h9]
  by_cases h10 : g.k = 10
  · rw [if_pos h10]; exact Nat.le_succ 1
  rw [if_neg h10]
  by_cases h12 : g.k = 12
  · rw [if_pos h12]; exact Nat.le_succ 1
  rw [if_neg h12]
  by_cases h11 : g.k = 11
  · rw [if_pos h11]; exact Nat.le_succ 1
  rw [if_neg h11]
  exact Nat.le_refl 2
theorem qc_pair {N : Nat} (h : 0 < qc N) : ((qc N).toNat = 1 ∧ N = 2) ∨ ((qc N).toNat = 2 ∧ N = 4) ∨ ((qc N).toNat = 3 ∧ N = 8) ∨ ((qc N).toNat = 4 ∧ N = 16) := by
  rcases qc_len h with rfl | rfl | rfl | rfl
  · exact .inl ⟨rfl, rfl⟩
  · exact .inr (.inl ⟨rfl, rfl⟩)
  · exact .inr (.inr (.inl ⟨rfl, rfl⟩))
  · exact .inr (.inr (.inr ⟨rfl, rfl⟩))
theorem goesG_in {g : Gt} {N i : Nat} (hg : gtB g (qc N) = true) (hi : i < N) : ∀ p ∈ goesG g i, p.1 < N := by
  obtain ⟨hn, _, ha, hb, hc⟩ := gtB_parts hg
  exact goes_in (qc_pair (by omega)) (by omega) (by omega) (by omega) hi
theorem send_step {x : Dw} {L : List (Nat × Dw)} {k : Nat} {p : Nat × Dw} {o : List Dw} (hp : L[k]? = some p) :
    sendO x (L.drop k) o = if dMulB x p.2 && dAddB (o.getD p.1 .zero) (dMulV x p.2) then sendO x (L.drop (k + 1)) (o.set p.1 (dAddV (o.getD p.1 .zero) (dMulV x p.2))) else none := by
  have hk : k < L.length := by
    rcases Nat.lt_or_ge k L.length with h' | h'
    · exact h'
    · rw [List.getElem?_eq_none h'] at hp; cases hp
  rw [List.getElem?_eq_getElem hk] at hp
  injection hp with hp
  rw [← List.getElem_cons_drop hk, hp]
  rfl
theorem ap_step {G : Nat → List (Nat × Dw)} {l o : List Dw} {i : Nat} {x : Dw} (hx : l[i]? = some x) :
    apO G i (l.drop i) o = if x = .zero then apO G (i + 1) (l.drop (i + 1)) o else match sendO x (G i) o with
      | some o' => apO G (i + 1) (l.drop (i + 1)) o'
      | none => none := by
  have hi : i < l.length := by
    rcases Nat.lt_or_ge i l.length with h' | h'
    · exact h'
    · rw [List.getElem?_eq_none h'] at hx; cases hx
  rw [List.getElem?_eq_getElem hi] at hx
  injection hx with hx
  rw [← List.getElem_cons_drop hi, hx]
  rfl
end Go.Proofs.Ytkcpemkahkkcmaa
