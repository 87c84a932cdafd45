/- UBaseC04: several of our texts in one: UBaseB13 UAgV UApKa UApKb. -/
import Derived.Test.YtlmiebeffdcfhaaGreatUSnH
import Derived.Test.YtlmiebeffdcfhaaGreatUBaseB11
import Derived.Test.YtlmiebeffdcfhaaGreatUBaseB06
import Derived.Test.YtlmiebeffdcfhaaGreatUBaseB12
import Derived.Test.YtlmiebeffdcfhaaGreatUBaseC01
import Derived.OrdersHeld
import Derived.Test.YtlmiebeffdcfhaaGreatUBaseC02
import Derived.Test.YtlmiebeffdcfhaaGreatUBaseC03
import Derived.Test.YtlmiebeffdcfhaaGreatUBaseB05
import Derived.Deep.Slices
import Derived.Test.YtlmiebeffdcfhaaGreatUBaseB16
import Derived.Test.YtlmiebeffdcfhaaGreatUBaseC08
import Derived.Test.YtlmiebeffdcfhaaGreatUPhF
namespace Go.Proofs.YtlmiebeffdcfhaaGreat
open Go.RowKit
/-- An amplitude sent to its places. -/
def sendO (x : Dw) : List (Nat × Dw) → List Dw → Option (List Dw)
  | [], o => some o
  | p :: r, o => if dMulB x p.2 && dAddB (o.getD p.1 .zero) (dMulV x p.2) then sendO x r (o.set p.1 (dAddV (o.getD p.1 .zero) (dMulV x p.2))) else none
/-- The amplitudes sent one by one. -/
def apO (G : Nat → List (Nat × Dw)) : Nat → List Dw → List Dw → Option (List Dw)
  | _, [], o => some o
  | i, x :: r, o => if x = .zero then apO G (i + 1) r o else match sendO x (G i) o with
    | some o' => apO G (i + 1) r o'
    | none => none
def goesG (g : Gt) (i : Nat) : List (Nat × Dw) := goesL g.k g.a.toNat g.b.toNat g.c.toNat i
def agO (g : Gt) (v : List Dw) : Option (List Dw) := if stB v && gtB g (qc v.length) then apO (goesG g) 0 v (List.replicate v.length .zero) else none
def agV (g : Gt) (v : List Dw) : List Dw := (agO g v).getD []
def agB (g : Gt) (v : List Dw) : Bool := (agO g v).isSome
/-- A gate's box. -/
def G1 (w : World) (b : Nat) (g : Gt) (w' : World) : Prop := w'.cell? ⟨b, 0, none⟩ = some (.int .i64 g.k) ∧ w'.cell? ⟨b, 1, none⟩ = some (.int .i64 g.a) ∧ w'.cell? ⟨b, 2, none⟩ = some (.int .i64 g.b) ∧ w'.cell? ⟨b, 3, none⟩ = some (.int .i64 g.c) ∧ b < w'.heap.size ∧ Below w.heap.size w w'
theorem G1.drew {w w' : World} {b : Nat} {g : Gt} (h : G1 w b g w') : G1 w b g w'.drew := let ⟨b0, b1, b2, b3, z, l⟩ := h; ⟨b0, b1, b2, b3, z, l.drew⟩
theorem G1.below {w w1 w2 : World} {b : Nat} {g : Gt} (h : G1 w b g w1) (hb : Below w1.heap.size w1 w2) : G1 w b g w2 :=
  let ⟨b0, b1, b2, b3, z, l⟩ := h; ⟨cell_below b0 hb z, cell_below b1 hb z, cell_below b2 hb z, cell_below b3 hb z, Nat.lt_of_lt_of_le z hb.size, below_up l hb l.size⟩
theorem G1.low {w w' : World} {b : Nat} {g : Gt} (h : G1 w b g w') : Below w.heap.size w w' := let ⟨_, _, _, _, _, l⟩ := h; l
attribute [local irreducible] World.cell?
set_option maxRecDepth 100000 in
set_option maxHeartbeats 3200000 in
theorem sapG_no0 (B : Nat) (g : Gt) (v : Value) (l : List Dw) (w : World) (hv : DSl w B v l) (hm : l.length ≤ 1048576) (hst : stB l = false) :
    Calls Tryz.prog 35 #[(.agg #[.int .i64 g.k, .int .i64 g.a, .int .i64 g.b, .int .i64 g.c]), v] w fun e w' => (∃ r, e = .returned (.tuple #[r, .bool false]) ∧ DSl w' w.heap.size r []) ∧ Below w.heap.size w w' := by
  have Hb0 := Lib.hid (show Below w.heap.size w (w.alloc (.cells #[.int .i64 g.k, .int .i64 g.a, .int .i64 g.b, .int .i64 g.c] 25)) by go_grown)
  have H1 := Lib.hid (svalidSt B v l (w.alloc (.cells #[.int .i64 g.k, .int .i64 g.a, .int .i64 g.b, .int .i64 g.c] 25)).drew ((hv.below ((Below.refl _ _).alloc (Nat.le_refl _) (.cells #[.int .i64 g.k, .int .i64 g.a, .int .i64 g.b, .int .i64 g.c] 25))).block fun _ _ _ => rfl) hm)
  obtain ⟨c0, c1, c2, c3⟩ := blk_cells (heap_alloc_new w (.cells #[.int .i64 g.k, .int .i64 g.a, .int .i64 g.b, .int .i64 g.c] 25))
  have hS : G1 (w.alloc (.cells #[.int .i64 g.k, .int .i64 g.a, .int .i64 g.b, .int .i64 g.c] 25)) w.heap.size g (w.alloc (.cells #[.int .i64 g.k, .int .i64 g.a, .int .i64 g.b, .int .i64 g.c] 25)) := ⟨c0, c1, c2, c3, by simp, Below.refl _ _⟩
  rw [hst] at H1
  clear hst hv
  go_enter Tryz.func35, Tryz.ntmps35
  go_upto_region 1 with fail
  refine wp_region_held_drew (S := (fun w' => w'.cell? ⟨w.heap.size, 0, none⟩ = some (.int .i64 g.k) ∧ w'.cell? ⟨w.heap.size, 1, none⟩ = some (.int .i64 g.a) ∧ w'.cell? ⟨w.heap.size, 2, none⟩ = some (.int .i64 g.b) ∧ w'.cell? ⟨w.heap.size, 3, none⟩ = some (.int .i64 g.c) ∧ w.heap.size < w'.heap.size ∧ Below (w.alloc (.cells #[.int .i64 g.k, .int .i64 g.a, .int .i64 g.b, .int .i64 g.c] 25)).heap.size (w.alloc (.cells #[.int .i64 g.k, .int .i64 g.a, .int .i64 g.b, .int .i64 g.c] 25)) w')) (by kernel_rfl) ?_ (fun hHeld => ?_)
  · exact hS.drew
  refine wpAnyH_take (i := 0) (oi := _) (v := ?_) op_at0 (by kernel_rfl) (by kernel_rfl) (by kernel_rfl) (fun _ _ _ h => h) (Or.inl ⟨by rfl, ?_⟩) (by assumption) ?_
  rotate_left
  · intro w hSw
    (try dsimp only at hSw)
    go_simp
    (try with_reducible rfl)
  (try simp only [Act.put, List.setIfInBounds_toArray, List.set_cons_zero, List.set_cons_succ])
  refine wpAnyH_ready (rs := [1]) (by kernel_rfl) (by simp) ?_
  refine AllReadyH.cons (o := _) op_at1 (fun K hK => ?_) ?_
  · go_simp
    refine (H1.out).mono ?_
    rintro e wR ⟨rfl, hbR⟩
    go_wp2_with fail
    refine hK.out _ _ ?_ (fun hHeld => ?_)
    · exact hS.drew.below hbR
    clear hK K
    (try simp only [Act.put, List.setIfInBounds_toArray, List.set_cons_zero, List.set_cons_succ])
    refine wpAnyH_take (i := 2) (oi := _) (v := ?_) op_at2 (by kernel_rfl) (by kernel_rfl) (by kernel_rfl) (fun _ _ _ h => h) (Or.inl ⟨by rfl, ?_⟩) (by assumption) ?_
    rotate_left
    · intro w hSw
      (try dsimp only at hSw)
      go_simp
      (try with_reducible rfl)
    (try simp only [Act.put, List.setIfInBounds_toArray, List.set_cons_zero, List.set_cons_succ])
    refine wpAnyH_take (i := 3) (oi := _) (v := ?_) op_at3 (by kernel_rfl) (by kernel_rfl) (by kernel_rfl) (fun _ _ _ h => h) (Or.inl ⟨by rfl, ?_⟩) (by assumption) ?_
    rotate_left
    · intro w hSw
      (try dsimp only at hSw)
      go_simp
      (try with_reducible rfl)
    (try simp only [Act.put, List.setIfInBounds_toArray, List.set_cons_zero, List.set_cons_succ])
    refine wpAnyH_take (i := 4) (oi := _) (v := undef) op_at4 (by kernel_rfl) (by kernel_rfl) (by kernel_rfl) (fun _ _ _ h => h) (Or.inr ⟨by rfl, rfl⟩) (by assumption) ?_
    (try simp only [Act.put, List.setIfInBounds_toArray, List.set_cons_zero, List.set_cons_succ])
    refine wpAnyH_take (i := 5) (oi := _) (v := undef) op_at5 (by kernel_rfl) (by kernel_rfl) (by kernel_rfl) (fun _ _ _ h => h) (Or.inr ⟨by rfl, rfl⟩) (by assumption) ?_
    (try simp only [Act.put, List.setIfInBounds_toArray, List.set_cons_zero, List.set_cons_succ])
    refine wpAnyH_take (i := 6) (oi := _) (v := undef) op_at6 (by kernel_rfl) (by kernel_rfl) (by kernel_rfl) (fun _ _ _ h => h) (Or.inr ⟨by rfl, rfl⟩) (by assumption) ?_
    (try simp only [Act.put, List.setIfInBounds_toArray, List.set_cons_zero, List.set_cons_succ])
    refine wpAnyH_take (i := 7) (oi := _) (v := undef) op_at7 (by kernel_rfl) (by kernel_rfl) (by kernel_rfl) (fun _ _ _ h => h) (Or.inr ⟨by rfl, rfl⟩) (by assumption) ?_
    (try simp only [Act.put, List.setIfInBounds_toArray, List.set_cons_zero, List.set_cons_succ])
    refine wpAnyH_take (i := 8) (oi := _) (v := undef) op_at8 (by kernel_rfl) (by kernel_rfl) (by kernel_rfl) (fun _ _ _ h => h) (Or.inr ⟨by rfl, rfl⟩) (by assumption) ?_
    (try simp only [Act.put, List.setIfInBounds_toArray, List.set_cons_zero, List.set_cons_succ])
    refine wpAnyH_take (i := 9) (oi := _) (v := ?_) op_at9 (by kernel_rfl) (by kernel_rfl) (by kernel_rfl) (fun _ _ _ h => h) (Or.inl ⟨by rfl, ?_⟩) (by assumption) ?_
    rotate_left
    · intro w hSw
      (try dsimp only at hSw)
      go_simp
      (try with_reducible rfl)
    (try simp only [Act.put, List.setIfInBounds_toArray, List.set_cons_zero, List.set_cons_succ])
    refine wpAnyH_done (by kernel_rfl) ?_ _
    have Hb1 := Lib.hid (below_nx Hb0.out.drew hbR)
    have hs1 := Hb1.out.size
    clear hbR
    go_wp2_with fail
    go_returns
    exact ⟨⟨_, rfl, DSl.nil⟩, by have := Hb1.out; go_grown⟩
  · exact AllReadyH.nil
end Go.Proofs.YtlmiebeffdcfhaaGreat
namespace Go.Proofs.YtlmiebeffdcfhaaGreat
open Go.RowKit
theorem sgoesG (g : Gt) (i : Nat) (w : World) (hk : 1 ≤ g.k ∧ g.k ≤ 12) (ha : 0 ≤ g.a ∧ g.a < 4) (hb : 0 ≤ g.b ∧ g.b < 4) (hc : 0 ≤ g.c ∧ g.c < 4) (hi : i < 16) :
    Calls Tryz.prog 72 #[(.agg #[.int .i64 g.k, .int .i64 g.a, .int .i64 g.b, .int .i64 g.c]), .int .i64 i] w fun e w' => ∃ v, e = .returned v ∧ sentE.Sl w' w.heap.size v (goesG g i) ∧ Below w.heap.size w w' := by
  obtain ⟨k, a, b, c⟩ := g
  obtain ⟨A, rfl⟩ := Int.eq_ofNat_of_zero_le ha.1
  obtain ⟨B, rfl⟩ := Int.eq_ofNat_of_zero_le hb.1
  obtain ⟨C, rfl⟩ := Int.eq_ofNat_of_zero_le hc.1
  exact sgoes k A B C i w hk.1 hk.2 (by have := ha.2; simp at this; omega) (by have := hb.2; simp at this; omega) (by have := hc.2; simp at this; omega) hi
theorem flip_in1 : ∀ i : Fin 2, ∀ q : Fin 1, flipN i.val q.val < 2 := by decide +kernel
theorem flip_in2 : ∀ i : Fin 4, ∀ q : Fin 2, flipN i.val q.val < 4 := by decide +kernel
theorem flip_in3 : ∀ i : Fin 8, ∀ q : Fin 3, flipN i.val q.val < 8 := by decide +kernel
theorem flip_in {n N i q : Nat} (hN : (n = 1 ∧ N = 2) ∨ (n = 2 ∧ N = 4) ∨ (n = 3 ∧ N = 8) ∨ (n = 4 ∧ N = 16)) (hi : i < N) (hq : q < n) : flipN i q < N := by
  rcases hN with ⟨rfl, rfl⟩ | ⟨rfl, rfl⟩ | ⟨rfl, rfl⟩ | ⟨rfl, rfl⟩
  · exact flip_in1 ⟨i, hi⟩ ⟨q, hq⟩
  · exact flip_in2 ⟨i, hi⟩ ⟨q, hq⟩
  · exact flip_in3 ⟨i, hi⟩ ⟨q, hq⟩
  · exact flip_lt ⟨i, hi⟩ ⟨q, hq⟩
theorem goes_in {n N : Nat} (hN : (n = 1 ∧ N = 2) ∨ (n = 2 ∧ N = 4) ∨ (n = 3 ∧ N = 8) ∨ (n = 4 ∧ N = 16)) {k : Int} {A B C i : Nat} (hA : A < n) (hB : B < n) (hC : C < n) (hi : i < N) : ∀ p ∈ goesL k A B C i, p.1 < N := by
  have fA := flip_in hN hi hA
  have fB := flip_in hN hi hB
  have fC := flip_in hN hi hC
  have fAB := flip_in hN fA hB
  have hl : lowN i A < N := by unfold lowN; split; exact fA; exact hi
  have fl' := flip_in hN hl hA
  have one : ∀ {a : Nat} {d : Dw} {p : Nat × Dw}, a < N → p ∈ [(a, d)] → p.1 < N := fun h hp => by rw [List.mem_singleton.1 hp]; exact h
  have ite : ∀ {a b : Nat} {t : Prop} [Decidable t], a < N → b < N → (if t then a else b) < N := fun ha hb => by split <;> assumption
  intro p hp
  unfold goesL at hp
  by_cases h1 : k = 1
  · rw [if_pos h1] at hp
    exact one (ite fA hi) hp
  rw [if_neg h1] at hp
  by_cases h2 : k = 2
  · rw [if_pos h2] at hp
    exact one (fA) hp
  rw [if_neg h2] at hp
  by_cases h3 : k = 3
  · rw [if_pos h3] at hp
    exact one (hi) hp
  rw [if_neg h3] at hp
  by_cases h5 : k = 5
  · rw [if_pos h5] at hp
    exact one (hi) hp
  rw [if_neg h5] at hp
  by_cases h6 : k = 6
  · rw [if_pos h6] at hp
    exact one (hi) hp
  rw [if_neg h6] at hp
  by_cases h7 : k = 7
  · rw [if_pos h7] at hp
    exact one (hi) hp
  rw [if_neg h7] at hp
  by_cases h8 : k = 8
  · rw [if_pos h8] at hp
    exact one (hi) hp
  rw [if_neg h8] at hp
  by_cases h9 : k = 9
  · rw [if_pos h9] at hp
    exact one (ite fB hi) hp
  rw [if_neg h9] at hp
  by_cases h10 : k = 10
  · rw [if_pos h10] at hp
    exact one (hi) hp
  rw [if_neg h10] at hp
  by_cases h12 : k = 12
  · rw [if_pos h12] at hp
    exact one (ite fC hi) hp
  rw [if_neg h12] at hp
  by_cases h11 : k = 11
  · rw [if_pos h11] at hp
    exact one (ite fAB hi) hp
  rw [if_neg h11] at hp
  rcases List.mem_cons.1 hp with rfl | hp
  · exact hl
  · exact one fl' hp
theorem goes_len {g : Gt} {i : Nat} : (goesG g i).length ≤ 2 := by
  unfold goesG goesL
  by_cases h1 : g.k = 1
  · rw [if_pos h1]; exact Nat.le_succ 1
  rw [if_neg h1]
  by_cases h2 : g.k = 2
  · rw [if_pos h2]; exact Nat.le_succ 1
  rw [if_neg h2]
  by_cases h3 : g.k = 3
  · rw [if_pos h3]; exact Nat.le_succ 1
  rw [if_neg h3]
  by_cases h5 : g.k = 5
  · rw [if_pos h5]; exact Nat.le_succ 1
  rw [if_neg h5]
  by_cases h6 : g.k = 6
  · rw [if_pos h6]; exact Nat.le_succ 1
  rw [if_neg h6]
  by_cases h7 : g.k = 7
  · rw [if_pos h7]; exact Nat.le_succ 1
  rw [if_neg h7]
  by_cases h8 : g.k = 8
  · rw [if_pos h8]; exact Nat.le_succ 1
  rw [if_neg h8]
  by_cases h9 : g.k = 9
  · rw [if_pos h9]; exact Nat.le_succ 1
  rw [if_neg h9]
  by_cases h10 : g.k = 10
  · rw [if_pos h10]; exact Nat.le_succ 1
  rw [if_neg h10]
  by_cases h12 : g.k = 12
  · rw [if_pos h12]; exact Nat.le_succ 1
  rw [if_neg h12]
  by_cases h11 : g.k = 11
  · rw [if_pos h11]; exact Nat.le_succ 1
  rw [if_neg h11]
  exact Nat.le_refl 2
theorem qc_pair {N : Nat} (h : 0 < qc N) : ((qc N).toNat = 1 ∧ N = 2) ∨ ((qc N).toNat = 2 ∧ N = 4) ∨ ((qc N).toNat = 3 ∧ N = 8) ∨ ((qc N).toNat = 4 ∧ N = 16) := by
  rcases qc_len h with rfl | rfl | rfl | rfl
  · exact .inl ⟨rfl, rfl⟩
  · exact .inr (.inl ⟨rfl, rfl⟩)
  · exact .inr (.inr (.inl ⟨rfl, rfl⟩))
  · exact .inr (.inr (.inr ⟨rfl, rfl⟩))
theorem goesG_in {g : Gt} {N i : Nat} (hg : gtB g (qc N) = true) (hi : i < N) : ∀ p ∈ goesG g i, p.1 < N := by
  obtain ⟨hn, _, ha, hb, hc⟩ := gtB_parts hg
  exact goes_in (qc_pair (by omega)) (by omega) (by omega) (by omega) hi
theorem send_step {x : Dw} {L : List (Nat × Dw)} {k : Nat} {p : Nat × Dw} {o : List Dw} (hp : L[k]? = some p) :
    sendO x (L.drop k) o = if dMulB x p.2 && dAddB (o.getD p.1 .zero) (dMulV x p.2) then sendO x (L.drop (k + 1)) (o.set p.1 (dAddV (o.getD p.1 .zero) (dMulV x p.2))) else none := by
  have hk : k < L.length := by
    rcases Nat.lt_or_ge k L.length with h' | h'
    · exact h'
    · rw [List.getElem?_eq_none h'] at hp; cases hp
  rw [List.getElem?_eq_getElem hk] at hp
  injection hp with hp
  rw [← List.getElem_cons_drop hk, hp]
  rfl
theorem ap_step {G : Nat → List (Nat × Dw)} {l o : List Dw} {i : Nat} {x : Dw} (hx : l[i]? = some x) :
    apO G i (l.drop i) o = if x = .zero then apO G (i + 1) (l.drop (i + 1)) o else match sendO x (G i) o with
      | some o' => apO G (i + 1) (l.drop (i + 1)) o'
      | none => none := by
  have hi : i < l.length := by
    rcases Nat.lt_or_ge i l.length with h' | h'
    · exact h'
    · rw [List.getElem?_eq_none h'] at hx; cases hx
  rw [List.getElem?_eq_getElem hi] at hx
  injection hx with hx
  rw [← List.getElem_cons_drop hi, hx]
  rfl
end Go.Proofs.YtlmiebeffdcfhaaGreat
namespace Go.Proofs.YtlmiebeffdcfhaaGreat
open Go.ChangeShapes Go.WideShapes Go.ChangeAt Go.RowKit Go.Lib Go.Joins
end Go.Proofs.YtlmiebeffdcfhaaGreat
namespace Go.Proofs.YtlmiebeffdcfhaaGreat
theorem dAddB_ok {x y : Dw} (h : dAddB x y = true) : x.ok ∧ y.ok := ⟨(dAddB_iff.1 h).1, (dAddB_iff.1 h).2.1⟩
theorem dMulB_ok {x y : Dw} (h : dMulB x y = true) : x.ok ∧ y.ok := ⟨(dMulB_iff.1 h).1, (dMulB_iff.1 h).2.1⟩
theorem rootN_z : ∀ k, rootN k .zero = .zero
  | 0 => rfl
  | k + 1 => rootN_z k
/-- The numerator over the sixtieth power of the root. -/
def vl (x : Dw) : Zw := rootN (60 - x.e.toNat) x.n
theorem vl_zero : vl .zero = .zero := rootN_z _
theorem vl_add {x y : Dw} (h : dAddB x y = true) : vl (dAddV x y) = (vl x).add (vl y) := by
  have ha := adds_of h
  have hx := (dAddB_ok h).1.2.2.1
  have hy := (dAddB_ok h).2.2.2.1
  have hs := (dAddV_ok h).2.2.1
  generalize dAddV x y = s at *
  unfold Adds at ha
  apply rootN_inj (k := x.e.toNat + y.e.toNat + s.e.toNat)
  unfold vl
  rw [rootN_addZ, ← rootN_add, ← rootN_add, ← rootN_add, show 60 - s.e.toNat + (x.e.toNat + y.e.toNat + s.e.toNat) = (x.e.toNat + y.e.toNat) + 60 by omega, rootN_add, ha, ← rootN_add, rootN_addZ, ← rootN_add, ← rootN_add]
  congr 1 <;> congr 1 <;> omega
theorem vl_mul {x y : Dw} (h : dMulB x y = true) : rootN 60 (vl (dMulV x y)) = (vl x).mul (vl y) := by
  have ha := muls_of h
  have hx := (dMulB_ok h).1.2.2.1
  have hy := (dMulB_ok h).2.2.2.1
  have hs := (dMulV_ok h).2.2.1
  generalize dMulV x y = s at *
  unfold Muls at ha
  apply rootN_inj (k := x.e.toNat + y.e.toNat + s.e.toNat)
  unfold vl
  rw [← rootN_mul2, ← rootN_add, ← rootN_add, ← rootN_add, show 60 - s.e.toNat + (60 + (x.e.toNat + y.e.toNat + s.e.toNat)) = (x.e.toNat + y.e.toNat) + 120 by omega, rootN_add, ha, ← rootN_add]
  congr 1; omega
/-- A factor over the root. -/
def wt (b : Dw) : Zw := rootN (1 - b.e.toNat) b.n
/-- A sum of n numbers. -/
def sumZ : Nat → (Nat → Zw) → Zw
  | 0, _ => .zero
  | n + 1, f => (sumZ n f).add (f n)
/-- What a list of places gives to place j. -/
def cf : List (Nat × Dw) → Nat → Zw
  | [], _ => .zero
  | p :: r, j => if p.1 = j then (wt p.2).add (cf r j) else cf r j
end Go.Proofs.YtlmiebeffdcfhaaGreat
namespace Go.Proofs.YtlmiebeffdcfhaaGreat
open Go.RowKit
/-- A contribution, six cells. -/
def contE : Enc (Nat × Dw) := ⟨fun p => .int .i64 (p.1 : Int) :: fl p.2, 6, 149, fun _ => rfl, fun x u h => by
  rw [List.mem_cons] at h
  rcases h with rfl | h
  · rfl
  · simp [fl] at h; rcases h with rfl | rfl | rfl | rfl | rfl <;> rfl⟩
attribute [local irreducible] World.cell?
end Go.Proofs.YtlmiebeffdcfhaaGreat
namespace Go.Proofs.YtlmiebeffdcfhaaGreat
open Go.RowKit
def G1u (w : World) (b : Nat) (g : Gt) (p : Nat) (u : Int) (w' : World) : Prop := w'.cell? ⟨b, 0, none⟩ = some (.int .i64 g.k) ∧ w'.cell? ⟨b, 1, none⟩ = some (.int .i64 g.a) ∧ w'.cell? ⟨b, 2, none⟩ = some (.int .i64 g.b) ∧ w'.cell? ⟨b, 3, none⟩ = some (.int .i64 g.c) ∧ w'.cell? ⟨p, 0, none⟩ = some (.int .i64 u) ∧ b < w'.heap.size ∧ p < w'.heap.size ∧ Below w.heap.size w w'
theorem G1u.drew {w w' : World} {b p : Nat} {g : Gt} {u : Int} (h : G1u w b g p u w') : G1u w b g p u w'.drew := let ⟨b0, b1, b2, b3, b4, z, y, l⟩ := h; ⟨b0, b1, b2, b3, b4, z, y, l.drew⟩
theorem G1u.below {w w1 w2 : World} {b p : Nat} {g : Gt} {u : Int} (h : G1u w b g p u w1) (hb : Below w1.heap.size w1 w2) : G1u w b g p u w2 :=
  let ⟨b0, b1, b2, b3, b4, z, y, l⟩ := h; ⟨cell_below b0 hb z, cell_below b1 hb z, cell_below b2 hb z, cell_below b3 hb z, cell_below b4 hb y, Nat.lt_of_lt_of_le z hb.size, Nat.lt_of_lt_of_le y hb.size, below_up l hb l.size⟩
attribute [local irreducible] World.cell?
end Go.Proofs.YtlmiebeffdcfhaaGreat
