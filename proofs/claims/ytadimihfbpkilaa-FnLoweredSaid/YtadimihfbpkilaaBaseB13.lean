/- BaseB13: several of our texts in one: ApA ApP GsO. -/
import Derived.Test.YtadimihfbpkilaaSnH
import Derived.Test.YtadimihfbpkilaaBaseB11
import Derived.Test.YtadimihfbpkilaaBaseB06
import Derived.Test.YtadimihfbpkilaaBaseB12
import Derived.Test.YtadimihfbpkilaaBaseB01
import Derived.OrdersHeld
import Derived.Test.YtadimihfbpkilaaBaseB09
import Derived.Test.YtadimihfbpkilaaGsL
import Derived.Test.YtadimihfbpkilaaBaseB05
import Derived.Deep.Slices
namespace Go.Proofs.Ytadimihfbpkilaa
open Go.RowKit
/-- An amplitude sent to its places. -/
def sendO (x : Dw) : List (Nat × Dw) → List Dw → Option (List Dw)
  | [], o => some o
  | p :: r, o => if dMulB x p.2 && dAddB (o.getD p.1 .zero) (dMulV x p.2) then sendO x r (o.set p.1 (dAddV (o.getD p.1 .zero) (dMulV x p.2))) else none
/-- The amplitudes sent one by one. -/
def apO (G : Nat → List (Nat × Dw)) : Nat → List Dw → List Dw → Option (List Dw)
  | _, [], o => some o
  | i, x :: r, o => if x = .zero then apO G (i + 1) r o else match sendO x (G i) o with
    | some o' => apO G (i + 1) r o'
    | none => none
def goesG (g : Gt) (i : Nat) : List (Nat × Dw) := goesL g.k g.a.toNat g.b.toNat g.c.toNat i
def agO (g : Gt) (v : List Dw) : Option (List Dw) := if stB v && gtB g (qc v.length) then apO (goesG g) 0 v (List.replicate v.length .zero) else none
def agV (g : Gt) (v : List Dw) : List Dw := (agO g v).getD []
def agB (g : Gt) (v : List Dw) : Bool := (agO g v).isSome
/-- A gate's box. -/
def G1 (w : World) (b : Nat) (g : Gt) (w' : World) : Prop := w'.cell? ⟨b, 0, none⟩ = some (.int .i64 g.k) ∧ w'.cell? ⟨b, 1, none⟩ = some (.int .i64 g.a) ∧ w'.cell? ⟨b, 2, none⟩ = some (.int .i64 g.b) ∧ w'.cell? ⟨b, 3, none⟩ = some (.int .i64 g.c) ∧ b < w'.heap.size ∧ Below w.heap.size w w'
theorem G1.drew {w w' : World} {b : Nat} {g : Gt} (h : G1 w b g w') : G1 w b g w'.drew := let ⟨b0, b1, b2, b3, z, l⟩ := h; ⟨b0, b1, b2, b3, z, l.drew⟩
theorem G1.below {w w1 w2 : World} {b : Nat} {g : Gt} (h : G1 w b g w1) (hb : Below w1.heap.size w1 w2) : G1 w b g w2 :=
  let ⟨b0, b1, b2, b3, z, l⟩ := h; ⟨cell_below b0 hb z, cell_below b1 hb z, cell_below b2 hb z, cell_below b3 hb z, Nat.lt_of_lt_of_le z hb.size, below_up l hb l.size⟩
theorem G1.low {w w' : World} {b : Nat} {g : Gt} (h : G1 w b g w') : Below w.heap.size w w' := let ⟨_, _, _, _, _, l⟩ := h; l
attribute [local irreducible] World.cell?
set_option maxRecDepth 100000 in
set_option maxHeartbeats 3200000 in
theorem sapG_no0 (B : Nat) (g : Gt) (v : Value) (l : List Dw) (w : World) (hv : DSl w B v l) (hm : l.length ≤ 1048576) (hst : stB l = false) :
    Calls Try.prog 53 #[(.agg #[.int .i64 g.k, .int .i64 g.a, .int .i64 g.b, .int .i64 g.c]), v] w fun e w' => (∃ r, e = .returned (.tuple #[r, .bool false]) ∧ DSl w' w.heap.size r []) ∧ Below w.heap.size w w' := by
  have Hb0 := Lib.hid (show Below w.heap.size w (w.alloc (.cells #[.int .i64 g.k, .int .i64 g.a, .int .i64 g.b, .int .i64 g.c] 30)) by go_grown)
  have H1 := Lib.hid (svalidSt B v l (w.alloc (.cells #[.int .i64 g.k, .int .i64 g.a, .int .i64 g.b, .int .i64 g.c] 30)).drew ((hv.below ((Below.refl _ _).alloc (Nat.le_refl _) (.cells #[.int .i64 g.k, .int .i64 g.a, .int .i64 g.b, .int .i64 g.c] 30))).block fun _ _ _ => rfl) hm)
  obtain ⟨c0, c1, c2, c3⟩ := blk_cells (heap_alloc_new w (.cells #[.int .i64 g.k, .int .i64 g.a, .int .i64 g.b, .int .i64 g.c] 30))
  have hS : G1 (w.alloc (.cells #[.int .i64 g.k, .int .i64 g.a, .int .i64 g.b, .int .i64 g.c] 30)) w.heap.size g (w.alloc (.cells #[.int .i64 g.k, .int .i64 g.a, .int .i64 g.b, .int .i64 g.c] 30)) := ⟨c0, c1, c2, c3, by simp, Below.refl _ _⟩
  rw [hst] at H1
  clear hst hv
  go_enter Try.func53, Try.ntmps53
  go_upto_region 1 with fail
  refine wp_region_held_drew (S := (fun w' => w'.cell? ⟨w.heap.size, 0, none⟩ = some (.int .i64 g.k) ∧ w'.cell? ⟨w.heap.size, 1, none⟩ = some (.int .i64 g.a) ∧ w'.cell? ⟨w.heap.size, 2, none⟩ = some (.int .i64 g.b) ∧ w'.cell? ⟨w.heap.size, 3, none⟩ = some (.int .i64 g.c) ∧ w.heap.size < w'.heap.size ∧ Below (w.alloc (.cells #[.int .i64 g.k, .int .i64 g.a, .int .i64 g.b, .int .i64 g.c] 30)).heap.size (w.alloc (.cells #[.int .i64 g.k, .int .i64 g.a, .int .i64 g.b, .int .i64 g.c] 30)) w')) (by kernel_rfl) ?_ (fun hHeld => ?_)
  · exact hS.drew
  refine wpAnyH_take (i := 0) (oi := _) (v := ?_) op_at0 (by kernel_rfl) (by kernel_rfl) (by kernel_rfl) (fun _ _ _ h => h) (Or.inl ⟨by rfl, ?_⟩) (by assumption) ?_
  rotate_left
  · intro w hSw
    (try dsimp only at hSw)
    go_simp
    (try with_reducible rfl)
  (try simp only [Act.put, List.setIfInBounds_toArray, List.set_cons_zero, List.set_cons_succ])
  refine wpAnyH_ready (rs := [1]) (by kernel_rfl) (by simp) ?_
  refine AllReadyH.cons (o := _) op_at1 (fun K hK => ?_) ?_
  · go_simp
    refine (H1.out).mono ?_
    rintro e wR ⟨rfl, hbR⟩
    go_wp2_with fail
    refine hK.out _ _ ?_ (fun hHeld => ?_)
    · exact hS.drew.below hbR
    clear hK K
    (try simp only [Act.put, List.setIfInBounds_toArray, List.set_cons_zero, List.set_cons_succ])
    refine wpAnyH_take (i := 2) (oi := _) (v := ?_) op_at2 (by kernel_rfl) (by kernel_rfl) (by kernel_rfl) (fun _ _ _ h => h) (Or.inl ⟨by rfl, ?_⟩) (by assumption) ?_
    rotate_left
    · intro w hSw
      (try dsimp only at hSw)
      go_simp
      (try with_reducible rfl)
    (try simp only [Act.put, List.setIfInBounds_toArray, List.set_cons_zero, List.set_cons_succ])
    refine wpAnyH_take (i := 3) (oi := _) (v := ?_) op_at3 (by kernel_rfl) (by kernel_rfl) (by kernel_rfl) (fun _ _ _ h => h) (Or.inl ⟨by rfl, ?_⟩) (by assumption) ?_
    rotate_left
    · intro w hSw
      (try dsimp only at hSw)
      go_simp
      (try with_reducible rfl)
    (try simp only [Act.put, List.setIfInBounds_toArray, List.set_cons_zero, List.set_cons_succ])
    refine wpAnyH_take (i := 4) (oi := _) (v := undef) op_at4 (by kernel_rfl) (by kernel_rfl) (by kernel_rfl) (fun _ _ _ h => h) (Or.inr ⟨by rfl, rfl⟩) (by assumption) ?_
    (try simp only [Act.put, List.setIfInBounds_toArray, List.set_cons_zero, List.set_cons_succ])
    refine wpAnyH_take (i := 5) (oi := _) (v := undef) op_at5 (by kernel_rfl) (by kernel_rfl) (by kernel_rfl) (fun _ _ _ h => h) (Or.inr ⟨by rfl, rfl⟩) (by assumption) ?_
    (try simp only [Act.put, List.setIfInBounds_toArray, List.set_cons_zero, List.set_cons_succ])
    refine wpAnyH_take (i := 6) (oi := _) (v := undef) op_at6 (by kernel_rfl) (by kernel_rfl) (by kernel_rfl) (fun _ _ _ h => h) (Or.inr ⟨by rfl, rfl⟩) (by assumption) ?_
    (try simp only [Act.put, List.setIfInBounds_toArray, List.set_cons_zero, List.set_cons_succ])
    refine wpAnyH_take (i := 7) (oi := _) (v := undef) op_at7 (by kernel_rfl) (by kernel_rfl) (by kernel_rfl) (fun _ _ _ h => h) (Or.inr ⟨by rfl, rfl⟩) (by assumption) ?_
    (try simp only [Act.put, List.setIfInBounds_toArray, List.set_cons_zero, List.set_cons_succ])
    refine wpAnyH_take (i := 8) (oi := _) (v := undef) op_at8 (by kernel_rfl) (by kernel_rfl) (by kernel_rfl) (fun _ _ _ h => h) (Or.inr ⟨by rfl, rfl⟩) (by assumption) ?_
    (try simp only [Act.put, List.setIfInBounds_toArray, List.set_cons_zero, List.set_cons_succ])
    refine wpAnyH_take (i := 9) (oi := _) (v := ?_) op_at9 (by kernel_rfl) (by kernel_rfl) (by kernel_rfl) (fun _ _ _ h => h) (Or.inl ⟨by rfl, ?_⟩) (by assumption) ?_
    rotate_left
    · intro w hSw
      (try dsimp only at hSw)
      go_simp
      (try with_reducible rfl)
    (try simp only [Act.put, List.setIfInBounds_toArray, List.set_cons_zero, List.set_cons_succ])
    refine wpAnyH_done (by kernel_rfl) ?_ _
    have Hb1 := Lib.hid (below_nx Hb0.out.drew hbR)
    have hs1 := Hb1.out.size
    clear hbR
    go_wp2_with fail
    go_returns
    exact ⟨⟨_, rfl, DSl.nil⟩, by have := Hb1.out; go_grown⟩
  · exact AllReadyH.nil
end Go.Proofs.Ytadimihfbpkilaa
namespace Go.Proofs.Ytadimihfbpkilaa
open Go.RowKit
theorem sgoesG (g : Gt) (i : Nat) (w : World) (hk : 1 ≤ g.k ∧ g.k ≤ 12) (ha : 0 ≤ g.a ∧ g.a < 4) (hb : 0 ≤ g.b ∧ g.b < 4) (hc : 0 ≤ g.c ∧ g.c < 4) (hi : i < 16) :
    Calls Try.prog 68 #[(.agg #[.int .i64 g.k, .int .i64 g.a, .int .i64 g.b, .int .i64 g.c]), .int .i64 i] w fun e w' => ∃ v, e = .returned v ∧ sentE.Sl w' w.heap.size v (goesG g i) ∧ Below w.heap.size w w' := by
  obtain ⟨k, a, b, c⟩ := g
  obtain ⟨A, rfl⟩ := Int.eq_ofNat_of_zero_le ha.1
  obtain ⟨B, rfl⟩ := Int.eq_ofNat_of_zero_le hb.1
  obtain ⟨C, rfl⟩ := Int.eq_ofNat_of_zero_le hc.1
  exact sgoes k A B C i w hk.1 hk.2 (by have := ha.2; simp at this; omega) (by have := hb.2; simp at this; omega) (by have := hc.2; simp at this; omega) hi
theorem flip_in1 : ∀ i : Fin 2, ∀ q : Fin 1, flipN i.val q.val < 2 := by decide +kernel
theorem flip_in2 : ∀ i : Fin 4, ∀ q : Fin 2, flipN i.val q.val < 4 := by decide +kernel
theorem flip_in3 : ∀ i : Fin 8, ∀ q : Fin 3, flipN i.val q.val < 8 := by decide +kernel
theorem flip_in {n N i q : Nat} (hN : (n = 1 ∧ N = 2) ∨ (n = 2 ∧ N = 4) ∨ (n = 3 ∧ N = 8) ∨ (n = 4 ∧ N = 16)) (hi : i < N) (hq : q < n) : flipN i q < N := by
  rcases hN with ⟨rfl, rfl⟩ | ⟨rfl, rfl⟩ | ⟨rfl, rfl⟩ | ⟨rfl, rfl⟩
  · exact flip_in1 ⟨i, hi⟩ ⟨q, hq⟩
  · exact flip_in2 ⟨i, hi⟩ ⟨q, hq⟩
  · exact flip_in3 ⟨i, hi⟩ ⟨q, hq⟩
  · exact flip_lt ⟨i, hi⟩ ⟨q, hq⟩
theorem goes_in {n N : Nat} (hN : (n = 1 ∧ N = 2) ∨ (n = 2 ∧ N = 4) ∨ (n = 3 ∧ N = 8) ∨ (n = 4 ∧ N = 16)) {k : Int} {A B C i : Nat} (hA : A < n) (hB : B < n) (hC : C < n) (hi : i < N) : ∀ p ∈ goesL k A B C i, p.1 < N := by
  have fA := flip_in hN hi hA
  have fB := flip_in hN hi hB
  have fC := flip_in hN hi hC
  have fAB := flip_in hN fA hB
  have hl : lowN i A < N := by unfold lowN; split; exact fA; exact hi
  have fl' := flip_in hN hl hA
  have one : ∀ {a : Nat} {d : Dw} {p : Nat × Dw}, a < N → p ∈ [(a, d)] → p.1 < N := fun h hp => by rw [List.mem_singleton.1 hp]; exact h
  have ite : ∀ {a b : Nat} {t : Prop} [Decidable t], a < N → b < N → (if t then a else b) < N := fun ha hb => by split <;> assumption
  intro p hp
  unfold goesL at hp
  by_cases h1 : k = 1
  · rw [if_pos h1] at hp
    exact one (ite fA hi) hp
  rw [if_neg h1] at hp
  by_cases h2 : k = 2
  · rw [if_pos h2] at hp
    exact one (fA) hp
  rw [if_neg h2] at hp
  by_cases h3 : k = 3
  · rw [if_pos h3] at hp
    exact one (hi) hp
  rw [if_neg h3] at hp
  by_cases h5 : k = 5
  · rw [if_pos h5] at hp
    exact one (hi) hp
  rw [if_neg h5] at hp
  by_cases h6 : k = 6
  · rw [if_pos h6] at hp
    exact one (hi) hp
  rw [if_neg h6] at hp
  by_cases h7 : k = 7
  · rw [if_pos h7] at hp
    exact one (hi) hp
  rw [if_neg h7] at hp
  by_cases h8 : k = 8
  · rw [if_pos h8] at hp
    exact one (hi) hp
  rw [if_neg h8] at hp
  by_cases h9 : k = 9
  · rw [if_pos h9] at hp
    exact one (ite fB hi) hp
  rw [if_neg h9] at hp
  by_cases h10 : k = 10
  · rw [if_pos h10] at hp
    exact one (hi) hp
  rw [if_neg h10] at hp
  by_cases h12 : k = 12
  · rw [if_pos h12] at hp
    exact one (ite fC hi) hp
  rw [if_neg h12] at hp
  by_cases h11 : k = 11
  · rw [if_pos h11] at hp
    exact one (ite fAB hi) hp
  rw [if_neg h11] at hp
  rcases List.mem_cons.1 hp with rfl | hp
  · exact hl
  · exact one fl' hp
theorem goes_len {g : Gt} {i : Nat} : (goesG g i).length ≤ 2 := by
  unfold goesG goesL
  by_cases h1 : g.k = 1
  · rw [if_pos h1]; exact Nat.le_succ 1
  rw [if_neg h1]
  by_cases h2 : g.k = 2
  · rw [if_pos h2]; exact Nat.le_succ 1
  rw [if_neg h2]
  by_cases h3 : g.k = 3
  · rw [if_pos h3]; exact Nat.le_succ 1
  rw [if_neg h3]
  by_cases h5 : g.k = 5
  · rw [if_pos h5]; exact Nat.le_succ 1
  rw [if_neg h5]
  by_cases h6 : g.k = 6
  · rw [if_pos h6]; exact Nat.le_succ 1
  rw [if_neg h6]
  by_cases h7 : g.k = 7
  · rw [if_pos h7]; exact Nat.le_succ 1
  rw [if_neg h7]
  by_cases h8 : g.k = 8
  · rw [if_pos h8]; exact Nat.le_succ 1
  rw [if_neg h8]
  by_cases h9 : g.k = 9
  · rw [if_pos h9]; exact Nat.le_succ 1
  rw [if_neg h9]
  by_cases h10 : g.k = 10
  · rw [if_pos h10]; exact Nat.le_succ 1
  rw [if_neg h10]
  by_cases h12 : g.k = 12
  · rw [if_pos h12]; exact Nat.le_succ 1
  rw [if_neg h12]
  by_cases h11 : g.k = 11
  · rw [if_pos h11]; exact Nat.le_succ 1
  rw [if_neg h11]
  exact Nat.le_refl 2
theorem qc_pair {N : Nat} (h : 0 < qc N) : ((qc N).toNat = 1 ∧ N = 2) ∨ ((qc N).toNat = 2 ∧ N = 4) ∨ ((qc N).toNat = 3 ∧ N = 8) ∨ ((qc N).toNat = 4 ∧ N = 16) := by
  rcases qc_len h with rfl | rfl | rfl | rfl
  · exact .inl ⟨rfl, rfl⟩
  · exact .inr (.inl ⟨rfl, rfl⟩)
  · exact .inr (.inr (.inl ⟨rfl, rfl⟩))
  · exact .inr (.inr (.inr ⟨rfl, rfl⟩))
theorem goesG_in {g : Gt} {N i : Nat} (hg : gtB g (qc N) = true) (hi : i < N) : ∀ p ∈ goesG g i, p.1 < N := by
  obtain ⟨hn, _, ha, hb, hc⟩ := gtB_parts hg
  exact goes_in (qc_pair (by omega)) (by omega) (by omega) (by omega) hi
theorem send_step {x : Dw} {L : List (Nat × Dw)} {k : Nat} {p : Nat × Dw} {o : List Dw} (hp : L[k]? = some p) :
    sendO x (L.drop k) o = if dMulB x p.2 && dAddB (o.getD p.1 .zero) (dMulV x p.2) then sendO x (L.drop (k + 1)) (o.set p.1 (dAddV (o.getD p.1 .zero) (dMulV x p.2))) else none := by
  have hk : k < L.length := by
    rcases Nat.lt_or_ge k L.length with h' | h'
    · exact h'
    · rw [List.getElem?_eq_none h'] at hp; cases hp
  rw [List.getElem?_eq_getElem hk] at hp
  injection hp with hp
  rw [← List.getElem_cons_drop hk, hp]
  rfl
theorem ap_step {G : Nat → List (Nat × Dw)} {l o : List Dw} {i : Nat} {x : Dw} (hx : l[i]? = some x) :
    apO G i (l.drop i) o = if x = .zero then apO G (i + 1) (l.drop (i + 1)) o else match sendO x (G i) o with
      | some o' => apO G (i + 1) (l.drop (i + 1)) o'
      | none => none := by
  have hi : i < l.length := by
    rcases Nat.lt_or_ge i l.length with h' | h'
    · exact h'
    · rw [List.getElem?_eq_none h'] at hx; cases hx
  rw [List.getElem?_eq_getElem hi] at hx
  injection hx with hx
  rw [← List.getElem_cons_drop hi, hx]
  rfl
end Go.Proofs.Ytadimihfbpkilaa
namespace Go.Proofs.Ytadimihfbpkilaa
open Go.ChangeShapes Go.WideShapes Go.ChangeAt Go.RowKit Go.Lib Go.Joins
theorem cellsLg : Try.prog.cellsOf 37 = 4 := by kernel_rfl
set_option maxRecDepth 100000 in
set_option maxHeartbeats 400000 in
theorem gt_cells {H : Type} {enc : TypeId × Value → H} {w : World} {base : Nat} {spare : Nat → Bool} {held : Bool} {fuel : Nat} {cs : List Value} {y : DataW H × List MemPlace}
    (h : DataW.trod enc Try.prog w base spare held fuel 37 cs = some y) : ∃ x : Gt, cs = gtE.fl x := by
  obtain ⟨z0, z1, z2, z3, m, _, hl, g0, g1, g2, g3⟩ := trod_struct4 Try.underlying37 h
  match cs, hl.trans cellsLg with
  | [c0, c1, c2, c3], _ =>
    simp [cells_in] at g0 g1 g2 g3
    obtain ⟨a, ea, -, -⟩ := DataW.trod_int Try.underlying3 g0
    obtain ⟨b, eb, -, -⟩ := DataW.trod_int Try.underlying3 g1
    obtain ⟨c, ec, -, -⟩ := DataW.trod_int Try.underlying3 g2
    obtain ⟨e, ed, -, -⟩ := DataW.trod_int Try.underlying3 g3
    obtain rfl := List.head_eq_of_cons_eq ea
    obtain rfl := List.head_eq_of_cons_eq eb
    obtain rfl := List.head_eq_of_cons_eq ec
    obtain rfl := List.head_eq_of_cons_eq ed
    exact ⟨⟨a, b, c, e⟩, rfl⟩
set_option maxRecDepth 100000 in
set_option maxHeartbeats 400000 in
theorem open_gs {H : Type} {enc : TypeId × Value → H} {w : World} {spare : Nat → Bool} {held : Bool} {r : Reach} {b0 : Nat} {v : Value} {d : DataW H} {p : List MemPlace}
    (hv : Value.okWide Try.prog w r b0 41 v) (h : DataW.Trod enc Try.prog w 0 spare held 41 v d p) :
    ∃ a0 cap l, v = .slice a0 (List.length l) cap ∧ GsIn w w.heap.size a0 l := by
  obtain ⟨a0, len, cap, rfl⟩ := okWide_slice Try.underlying41 hv
  obtain ⟨fuel, hf⟩ := h
  rcases Deep.open_slice Try.underlying41 hf with ⟨hcs, _⟩ | ⟨x, l, c, m, n, D, Pl, hcs, _, hl, hm, hmm, _, hx⟩
  · simp [Value.cells] at hcs
    obtain ⟨rfl, rfl, rfl⟩ := hcs
    exact ⟨none, 0, [], rfl, Nat.zero_le _, fun h => absurd h (by simp)⟩
  · simp [Value.cells] at hcs
    obtain ⟨rfl, rfl, rfl⟩ := hcs
    have hlm : len ≤ m := by rw [hmm]; split <;> omega
    haveI : Inhabited Gt := ⟨⟨0, 0, 0, 0⟩⟩
    obtain ⟨X, hX⟩ := Deep.choose_lt (α := Gt) (p := fun i y => ∀ k, k < 4 → w.cell? ((x.add (i * 4)).add k) = (gtE.fl y)[k]?) (n := len) (fun i hi => by
      obtain ⟨cs', h1, h2⟩ := hx i (by omega)
      rw [cellsLg] at h1
      obtain ⟨_, _, h3⟩ := World.cells?_some h1
      obtain ⟨y, rfl⟩ := gt_cells h2
      exact ⟨y, h3⟩)
    have hlen : ((List.range len).map X).length = len := by simp
    refine ⟨some x, cap, (List.range len).map X, by rw [hlen], by rw [hlen]; omega, fun h0 => ?_⟩
    rw [hlen] at h0
    obtain ⟨b, off, spot⟩ := x
    have hc0 := hX 0 h0 0 (by omega)
    have e0 : ((⟨b, off, spot⟩ : Addr).add (0 * 4)).add 0 = ⟨b, off, spot⟩ := by simp [Addr.add]
    rw [e0] at hc0
    have hspot : spot = none := World.cell?_spot (v := .int .i64 (X 0).k) hc0
    subst hspot
    refine ⟨b, off, rfl, ?_, fun j y hy => ?_⟩
    · exact World.block_lt_of_cell? _ _ (show w.cell? ⟨b, off, none⟩ = some (.int .i64 (X 0).k) from hc0)
    · rw [List.getElem?_map] at hy
      have hj : j < len := by
        rcases Nat.lt_or_ge j len with h' | h'
        · exact h'
        · rw [List.getElem?_eq_none (by simpa using h')] at hy; cases hy
      rw [List.getElem?_range hj] at hy
      injection hy with hy
      have hY := hX j hj
      rw [hy] at hY
      have ha : ∀ k, (((⟨b, off, none⟩ : Addr).add (j * 4)).add k) = ⟨b, off + j * 4 + k, none⟩ := by
        intro k
        unfold Addr.add
        by_cases h1 : j * 4 = 0
        · by_cases h2 : k = 0
          · simp [h1, h2]
          · simp [h1, h2]
        · by_cases h2 : k = 0
          · simp [h1, h2]
          · simp [h1, h2]
      have h5 := fun k hk => (congrArg w.cell? (ha k)).symm.trans (hY k hk)
      exact ⟨h5 0 (by omega), h5 1 (by omega), h5 2 (by omega), h5 3 (by omega)⟩
end Go.Proofs.Ytadimihfbpkilaa
