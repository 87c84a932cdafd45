/- B13: several of our texts in one: TcP ApA ApP ApB ApC ApD. -/
import Derived.Test.YtbnkanlebjpkfaaDoorB11
import Derived.Test.YtbnkanlebjpkfaaDoorB15
import Derived.Test.YtbnkanlebjpkfaaDoorB03
import Derived.Test.YtbnkanlebjpkfaaDoorB04
import Derived.Test.YtbnkanlebjpkfaaDoorB14
import Derived.Test.YtbnkanlebjpkfaaDoorB12
import Derived.Test.YtbnkanlebjpkfaaDoorB06
import Derived.OrdersHeld
namespace Go.Proofs.YtbnkanlebjpkfaaDoor
open Go.Lib
/-- A kind's name, as bytes. -/
def nm (k : Int) : List UInt8 := (nmB k).data.toList
theorem toB_nm (k : Int) : toB (nm k) = nmB k := toB_of _
theorem kind12 {k : Int} (h : 1 ≤ k ∧ k ≤ 12) : k = 1 ∨ k = 2 ∨ k = 3 ∨ k = 4 ∨ k = 5 ∨ k = 6 ∨ k = 7 ∨ k = 8 ∨ k = 9 ∨ k = 10 ∨ k = 11 ∨ k = 12 := by omega
theorem nm_plain {k : Int} (h : 1 ≤ k ∧ k ≤ 12) : (32 : UInt8) ∉ nm k ∧ (10 : UInt8) ∉ nm k ∧ (nm k).length ≤ 4 ∧ nm k ≠ [] := by
  rcases kind12 h with rfl | rfl | rfl | rfl | rfl | rfl | rfl | rfl | rfl | rfl | rfl | rfl <;> decide +kernel
/-- GateKind. -/
def gkV (s : ByteArray) : Int := ((List.range 12).find? fun (j : Nat) => decide (nmB ((j : Int) + 1) = s)).elim 0 fun (j : Nat) => (j : Int) + 1
theorem gkV_of {k : Int} (h : 1 ≤ k ∧ k ≤ 12) : gkV (nmB k) = k := by
  rcases kind12 h with rfl | rfl | rfl | rfl | rfl | rfl | rfl | rfl | rfl | rfl | rfl | rfl <;> decide +kernel
theorem nmB_inj {k m : Int} (h : 1 ≤ k ∧ k ≤ 12) (h' : 1 ≤ m ∧ m ≤ 12) (e : nmB k = nmB m) : k = m := by rw [← gkV_of h, ← gkV_of h', e]
theorem gkV_range (s : ByteArray) : gkV s = 0 ∨ (1 ≤ gkV s ∧ gkV s ≤ 12 ∧ nmB (gkV s) = s) := by
  unfold gkV
  cases h : (List.range 12).find? fun (j : Nat) => decide (nmB ((j : Int) + 1) = s) with
  | none => exact .inl rfl
  | some j =>
    have h1 := List.find?_some h
    have h2 := List.mem_range.1 (List.mem_of_find?_eq_some h)
    exact .inr ⟨by show 1 ≤ (j : Int) + 1; omega, by show (j : Int) + 1 ≤ 12; omega, of_decide_eq_true h1⟩
/-- A row of pieces behind a mark each, cut at the marks. -/
theorem pcs_flat {c : UInt8} : ∀ {ls : List (List UInt8)} {l : List UInt8}, c ∉ l → (∀ m ∈ ls, c ∉ m) → pcs c (toB (l ++ ls.flatMap fun m => c :: m)) = toB l :: ls.map toB
  | [], l, h, _ => by simp only [List.flatMap_nil, List.append_nil, List.map_nil]; exact pcs_one h
  | m :: ls, l, h, hs => by
    rw [List.flatMap_cons, List.cons_append, pcs_app h, pcs_flat (hs m (List.mem_cons_self ..)) fun q hq => hs q (List.mem_cons_of_mem _ hq)]
    rfl
/-- The text of a gate. -/
def gtT (g : Gt) : List UInt8 := nm g.k ++ ((gqs g).map itoa).flatMap fun m => 32 :: m
def gtxt (g : Gt) : ByteArray := if gtB g 4 then toB (gtT g) else toB []
theorem num_no2 {l : List UInt8} (h : Num l) {c : UInt8} (hc : c = 32 ∨ c = 10) : c ∉ l := by
  intro hm
  rcases h c hm with h | h
  · rcases hc with rfl | rfl <;> exact absurd h (by decide)
  · rcases hc with rfl | rfl <;> exact absurd h (by decide)
theorem gtT_pcs {g : Gt} (hk : 1 ≤ g.k ∧ g.k ≤ 12) : pcs 32 (toB (gtT g)) = nmB g.k :: (gqs g).map fun q => toB (itoa q) := by
  unfold gtT
  rw [pcs_flat (nm_plain hk).1 (fun m hm => by obtain ⟨q, -, rfl⟩ := List.mem_map.1 hm; exact num_no2 (itoa_num q) (.inl rfl)), toB_nm, List.map_map]
  rfl
theorem gtT_no10 {g : Gt} (hk : 1 ≤ g.k ∧ g.k ≤ 12) : (10 : UInt8) ∉ gtT g := by
  unfold gtT
  rw [List.mem_append, List.mem_flatMap]
  rintro (h | ⟨m, hm, h⟩)
  · exact (nm_plain hk).2.1 h
  · obtain ⟨q, -, rfl⟩ := List.mem_map.1 hm
    rcases List.mem_cons.1 h with h | h
    · exact absurd h (by decide)
    · exact num_no2 (itoa_num q) (.inr rfl) h
/-- What a valid gate's fields are. -/
theorem gtB_fields {g : Gt} {n : Int} (h : gtB g n = true) : (ar g.k = 1 ∧ gqs g = [g.a] ∧ g.b = 0 ∧ g.c = 0) ∨ (ar g.k = 2 ∧ gqs g = [g.a, g.b] ∧ g.c = 0) ∨ (ar g.k = 3 ∧ gqs g = [g.a, g.b, g.c]) := by
  obtain ⟨hn, hk, -⟩ := gtB_parts h
  obtain ⟨k, a, b, c⟩ := g
  have h3 := ar_le k
  have h0 : ar k ≠ 0 := fun e => by rw [gtB_zero e] at h; cases h
  rcases (show ar k = 1 ∨ ar k = 2 ∨ ar k = 3 by omega) with e | e | e
  · rw [gtB_1 e hn, Bool.and_eq_true, Bool.and_eq_true, decide_eq_true_eq, decide_eq_true_eq] at h
    exact .inl ⟨e, by unfold gqs; simp [e], h.1.1, h.1.2⟩
  · rw [gtB_2 e hn, Bool.and_eq_true, decide_eq_true_eq] at h
    exact .inr (.inl ⟨e, by unfold gqs; simp [e], h.1⟩)
  · exact .inr (.inr ⟨e, by unfold gqs; simp [e]⟩)
theorem itoa_small {n m : Int} (h : toB (itoa n) = toB (itoa m)) (a0 : 0 ≤ n) (a1 : n < 4) (b0 : 0 ≤ m) (b1 : m < 4) : n = m := itoa_inj64 (toB_inj h) (by omega) (by omega) (by omega) (by omega)
theorem gtT_inj {g h : Gt} (hg : gtB g 4 = true) (hh : gtB h 4 = true) (e : gtT g = gtT h) : g = h := by
  obtain ⟨-, gk, ga, gb, gc⟩ := gtB_parts hg
  obtain ⟨-, hk, ha, hb, hc⟩ := gtB_parts hh
  have e1 := gtT_pcs gk
  rw [e, gtT_pcs hk] at e1
  injection e1 with e2 e3
  have ek := nmB_inj gk hk e2.symm
  have fg := gtB_fields hg
  have fh := gtB_fields hh
  obtain ⟨k, a, b, c⟩ := g
  obtain ⟨m, a', b', c'⟩ := h
  simp only at ek
  subst ek
  simp only at fg fh ga gb gc ha hb hc
  rcases fg with ⟨r, q, z, z'⟩ | ⟨r, q, z⟩ | ⟨r, q⟩ <;> rcases fh with ⟨r', q', y, y'⟩ | ⟨r', q', y⟩ | ⟨r', q'⟩ <;> first | omega | skip
  · rw [q, q'] at e3
    simp only [List.map_cons, List.map_nil, List.cons.injEq, and_true] at e3
    rw [itoa_small e3 ha.1 ha.2 ga.1 ga.2, z, z', y, y']
  · rw [q, q'] at e3
    simp only [List.map_cons, List.map_nil, List.cons.injEq, and_true] at e3
    rw [itoa_small e3.1 ha.1 ha.2 ga.1 ga.2, itoa_small e3.2 hb.1 hb.2 gb.1 gb.2, z, y]
  · rw [q, q'] at e3
    simp only [List.map_cons, List.map_nil, List.cons.injEq, and_true] at e3
    rw [itoa_small e3.1 ha.1 ha.2 ga.1 ga.2, itoa_small e3.2.1 hb.1 hb.2 gb.1 gb.2, itoa_small e3.2.2 hc.1 hc.2 gc.1 gc.2]
/-- ParseGate: whether there is such a gate, and the gate. -/
noncomputable def pgB (s : ByteArray) : Bool := @decide (∃ g, gtB g 4 = true ∧ toB (gtT g) = s) (Classical.propDecidable _)
noncomputable def pgV (s : ByteArray) : Gt := by classical exact if h : ∃ g, gtB g 4 = true ∧ toB (gtT g) = s then h.choose else ⟨0, 0, 0, 0⟩
theorem pg_yes {g : Gt} {s : ByteArray} (h : gtB g 4 = true) (e : toB (gtT g) = s) : pgB s = true ∧ pgV s = g := by
  have hx : ∃ g, gtB g 4 = true ∧ toB (gtT g) = s := ⟨g, h, e⟩
  refine ⟨by unfold pgB; exact @decide_eq_true _ (Classical.propDecidable _) hx, ?_⟩
  unfold pgV
  rw [dif_pos hx]
  exact gtT_inj hx.choose_spec.1 h (toB_inj (hx.choose_spec.2.trans e.symm))
theorem pg_no {s : ByteArray} (h : ∀ g, gtB g 4 = true → toB (gtT g) ≠ s) : pgB s = false ∧ pgV s = ⟨0, 0, 0, 0⟩ := by
  have hx : ¬ ∃ g, gtB g 4 = true ∧ toB (gtT g) = s := fun ⟨g, h1, h2⟩ => h g h1 h2
  exact ⟨by unfold pgB; exact @decide_eq_false _ (Classical.propDecidable _) hx, by unfold pgV; rw [dif_neg hx]⟩
end Go.Proofs.YtbnkanlebjpkfaaDoor
namespace Go.Proofs.YtbnkanlebjpkfaaDoor
open Go.RowKit
/-- A gate's box. -/
def G1 (w : World) (b : Nat) (g : Gt) (w' : World) : Prop := w'.cell? ⟨b, 0, none⟩ = some (.int .i64 g.k) ∧ w'.cell? ⟨b, 1, none⟩ = some (.int .i64 g.a) ∧ w'.cell? ⟨b, 2, none⟩ = some (.int .i64 g.b) ∧ w'.cell? ⟨b, 3, none⟩ = some (.int .i64 g.c) ∧ b < w'.heap.size ∧ Below w.heap.size w w'
theorem G1.drew {w w' : World} {b : Nat} {g : Gt} (h : G1 w b g w') : G1 w b g w'.drew := let ⟨b0, b1, b2, b3, z, l⟩ := h; ⟨b0, b1, b2, b3, z, l.drew⟩
theorem G1.below {w w1 w2 : World} {b : Nat} {g : Gt} (h : G1 w b g w1) (hb : Below w1.heap.size w1 w2) : G1 w b g w2 :=
  let ⟨b0, b1, b2, b3, z, l⟩ := h; ⟨cell_below b0 hb z, cell_below b1 hb z, cell_below b2 hb z, cell_below b3 hb z, Nat.lt_of_lt_of_le z hb.size, below_up l hb l.size⟩
theorem G1.low {w w' : World} {b : Nat} {g : Gt} (h : G1 w b g w') : Below w.heap.size w w' := let ⟨_, _, _, _, _, l⟩ := h; l
attribute [local irreducible] World.cell?
end Go.Proofs.YtbnkanlebjpkfaaDoor
namespace Go.Proofs.YtbnkanlebjpkfaaDoor
open Go.RowKit
end Go.Proofs.YtbnkanlebjpkfaaDoor
namespace Go.Proofs.YtbnkanlebjpkfaaDoor
open Go.RowKit
def H12 (w : World) (gv ov : Nat) (x : Dw) (gs os p : Nat) (y : Dw) (w' : World) : Prop := w'.cell? ⟨gv, ov, none⟩ = some (.int .i64 x.n.a) ∧ w'.cell? ⟨gv, ov + 1, none⟩ = some (.int .i64 x.n.b) ∧ w'.cell? ⟨gv, ov + 2, none⟩ = some (.int .i64 x.n.c) ∧ w'.cell? ⟨gv, ov + 3, none⟩ = some (.int .i64 x.n.d) ∧ w'.cell? ⟨gv, ov + 4, none⟩ = some (.int .i64 x.e) ∧ w'.cell? ⟨gs, os, none⟩ = some (.int .i64 (p : Int)) ∧ w'.cell? ⟨gs, os + 1, none⟩ = some (.int .i64 y.n.a) ∧ w'.cell? ⟨gs, os + 2, none⟩ = some (.int .i64 y.n.b) ∧ w'.cell? ⟨gs, os + 3, none⟩ = some (.int .i64 y.n.c) ∧ w'.cell? ⟨gs, os + 4, none⟩ = some (.int .i64 y.n.d) ∧ w'.cell? ⟨gs, os + 5, none⟩ = some (.int .i64 y.e) ∧ gv < w'.heap.size ∧ gs < w'.heap.size ∧ Below w.heap.size w w'
theorem H12.drew {w w1 : World} {gv ov : Nat} {x : Dw} {gs os p : Nat} {y : Dw} (h : H12 w gv ov x gs os p y w1) : H12 w gv ov x gs os p y w1.drew :=
  let ⟨c0, c1, c2, c3, c4, c5, c6, c7, c8, c9, c10, z0, z1, l⟩ := h; ⟨c0, c1, c2, c3, c4, c5, c6, c7, c8, c9, c10, z0, z1, l.drew⟩
theorem H12.below {w w1 w2 : World} {gv ov : Nat} {x : Dw} {gs os p : Nat} {y : Dw} (h : H12 w gv ov x gs os p y w1) (hb : Below w1.heap.size w1 w2) : H12 w gv ov x gs os p y w2 :=
  let ⟨c0, c1, c2, c3, c4, c5, c6, c7, c8, c9, c10, z0, z1, l⟩ := h
  ⟨cell_below c0 hb z0, cell_below c1 hb z0, cell_below c2 hb z0, cell_below c3 hb z0, cell_below c4 hb z0, cell_below c5 hb z1, cell_below c6 hb z1, cell_below c7 hb z1, cell_below c8 hb z1, cell_below c9 hb z1, cell_below c10 hb z1, Nat.lt_of_lt_of_le z0 hb.size, Nat.lt_of_lt_of_le z1 hb.size, below_up l hb l.size⟩
theorem H12.alloc {w w1 : World} {gv ov : Nat} {x : Dw} {gs os p : Nat} {y : Dw} (h : H12 w gv ov x gs os p y w1) (o : Obj) : H12 w gv ov x gs os p y (w1.alloc o) := h.below ((Below.refl _ _).alloc (Nat.le_refl _) o)
theorem H12.low {w w1 : World} {gv ov : Nat} {x : Dw} {gs os p : Nat} {y : Dw} (h : H12 w gv ov x gs os p y w1) : Below w.heap.size w w1 := let ⟨_, _, _, _, _, _, _, _, _, _, _, _, _, l⟩ := h; l
def H13 (w : World) (go po : Nat) (u : Dw) (gs os p : Nat) (q : Nat) (z : Dw) (w' : World) : Prop := w'.cell? ⟨go, po, none⟩ = some (.int .i64 u.n.a) ∧ w'.cell? ⟨go, po + 1, none⟩ = some (.int .i64 u.n.b) ∧ w'.cell? ⟨go, po + 2, none⟩ = some (.int .i64 u.n.c) ∧ w'.cell? ⟨go, po + 3, none⟩ = some (.int .i64 u.n.d) ∧ w'.cell? ⟨go, po + 4, none⟩ = some (.int .i64 u.e) ∧ w'.cell? ⟨gs, os, none⟩ = some (.int .i64 (p : Int)) ∧ w'.cell? ⟨q, 0, none⟩ = some (.int .i64 z.n.a) ∧ w'.cell? ⟨q, 1, none⟩ = some (.int .i64 z.n.b) ∧ w'.cell? ⟨q, 2, none⟩ = some (.int .i64 z.n.c) ∧ w'.cell? ⟨q, 3, none⟩ = some (.int .i64 z.n.d) ∧ w'.cell? ⟨q, 4, none⟩ = some (.int .i64 z.e) ∧ go < w'.heap.size ∧ gs < w'.heap.size ∧ q < w'.heap.size ∧ Below w.heap.size w w'
theorem H13.drew {w w1 : World} {go po : Nat} {u : Dw} {gs os p : Nat} {q : Nat} {z : Dw} (h : H13 w go po u gs os p q z w1) : H13 w go po u gs os p q z w1.drew :=
  let ⟨c0, c1, c2, c3, c4, c5, c6, c7, c8, c9, c10, z0, z1, z2, l⟩ := h; ⟨c0, c1, c2, c3, c4, c5, c6, c7, c8, c9, c10, z0, z1, z2, l.drew⟩
theorem H13.below {w w1 w2 : World} {go po : Nat} {u : Dw} {gs os p : Nat} {q : Nat} {z : Dw} (h : H13 w go po u gs os p q z w1) (hb : Below w1.heap.size w1 w2) : H13 w go po u gs os p q z w2 :=
  let ⟨c0, c1, c2, c3, c4, c5, c6, c7, c8, c9, c10, z0, z1, z2, l⟩ := h
  ⟨cell_below c0 hb z0, cell_below c1 hb z0, cell_below c2 hb z0, cell_below c3 hb z0, cell_below c4 hb z0, cell_below c5 hb z1, cell_below c6 hb z2, cell_below c7 hb z2, cell_below c8 hb z2, cell_below c9 hb z2, cell_below c10 hb z2, Nat.lt_of_lt_of_le z0 hb.size, Nat.lt_of_lt_of_le z1 hb.size, Nat.lt_of_lt_of_le z2 hb.size, below_up l hb l.size⟩
theorem H13.alloc {w w1 : World} {go po : Nat} {u : Dw} {gs os p : Nat} {q : Nat} {z : Dw} (h : H13 w go po u gs os p q z w1) (o : Obj) : H13 w go po u gs os p q z (w1.alloc o) := h.below ((Below.refl _ _).alloc (Nat.le_refl _) o)
theorem H13.low {w w1 : World} {go po : Nat} {u : Dw} {gs os p : Nat} {q : Nat} {z : Dw} (h : H13 w go po u gs os p q z w1) : Below w.heap.size w w1 := let ⟨_, _, _, _, _, _, _, _, _, _, _, _, _, _, l⟩ := h; l
attribute [local irreducible] World.cell?
end Go.Proofs.YtbnkanlebjpkfaaDoor
namespace Go.Proofs.YtbnkanlebjpkfaaDoor
open Go.RowKit
attribute [local irreducible] World.cell?
end Go.Proofs.YtbnkanlebjpkfaaDoor
namespace Go.Proofs.YtbnkanlebjpkfaaDoor
open Go.RowKit
theorem flat_plain : ∀ l : List Dw, ∀ u ∈ flat l, u.oneCell' = true
  | [], u, h => by simp [flat] at h
  | x :: l, u, h => by
    rw [flat, List.mem_append] at h
    rcases h with h | h
    · exact fl_plain x u h
    · exact flat_plain l u h
attribute [local irreducible] World.cell?
end Go.Proofs.YtbnkanlebjpkfaaDoor
