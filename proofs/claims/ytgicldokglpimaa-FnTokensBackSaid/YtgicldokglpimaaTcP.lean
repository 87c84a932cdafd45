/- Plain: the text of gates and circuits, and what is read back from it. -/
import Derived.Test.YtgicldokglpimaaBaseB33
import Derived.Test.YtgicldokglpimaaBaseB11
import Derived.Test.YtgicldokglpimaaGtP
namespace Go.Proofs.Ytgicldokglpimaa
open Go.Lib
/-- A kind's name, as bytes. -/
def nm (k : Int) : List UInt8 := (nmB k).data.toList
theorem toB_nm (k : Int) : toB (nm k) = nmB k := toB_of _
theorem kind12 {k : Int} (h : 1 ≤ k ∧ k ≤ 12) : k = 1 ∨ k = 2 ∨ k = 3 ∨ k = 4 ∨ k = 5 ∨ k = 6 ∨ k = 7 ∨ k = 8 ∨ k = 9 ∨ k = 10 ∨ k = 11 ∨ k = 12 := by omega
theorem nm_plain {k : Int} (h : 1 ≤ k ∧ k ≤ 12) : (32 : UInt8) ∉ nm k ∧ (10 : UInt8) ∉ nm k ∧ (nm k).length ≤ 4 ∧ nm k ≠ [] := by
  rcases kind12 h with rfl | rfl | rfl | rfl | rfl | rfl | rfl | rfl | rfl | rfl | rfl | rfl <;> decide +kernel
/-- GateKind. -/
def gkV (s : ByteArray) : Int := ((List.range 12).find? fun (j : Nat) => decide (nmB ((j : Int) + 1) = s)).elim 0 fun (j : Nat) => (j : Int) + 1
theorem gkV_of {k : Int} (h : 1 ≤ k ∧ k ≤ 12) : gkV (nmB k) = k := by
  rcases kind12 h with rfl | rfl | rfl | rfl | rfl | rfl | rfl | rfl | rfl | rfl | rfl | rfl <;> decide +kernel
theorem nmB_inj {k m : Int} (h : 1 ≤ k ∧ k ≤ 12) (h' : 1 ≤ m ∧ m ≤ 12) (e : nmB k = nmB m) : k = m := by rw [← gkV_of h, ← gkV_of h', e]
theorem gkV_range (s : ByteArray) : gkV s = 0 ∨ (1 ≤ gkV s ∧ gkV s ≤ 12 ∧ nmB (gkV s) = s) := by
  unfold gkV
  cases h : (List.range 12).find? fun (j : Nat) => decide (nmB ((j : Int) + 1) = s) with
  | none => exact .inl rfl
  | some j =>
    have h1 := List.find?_some h
    have h2 := List.mem_range.1 (List.mem_of_find?_eq_some h)
    exact .inr ⟨by show 1 ≤ (j : Int) + 1; omega, by show (j : Int) + 1 ≤ 12; omega, of_decide_eq_true h1⟩
/-- A row of pieces behind a mark each, cut at the marks. -/
theorem pcs_flat {c : UInt8} : ∀ {ls : List (List UInt8)} {l : List UInt8}, c ∉ l → (∀ m ∈ ls, c ∉ m) → pcs c (toB (l ++ ls.flatMap fun m => c :: m)) = toB l :: ls.map toB
  | [], l, h, _ => by simp only [List.flatMap_nil, List.append_nil, List.map_nil]; exact pcs_one h
  | m :: ls, l, h, hs => by
    rw [List.flatMap_cons, List.cons_append, pcs_app h, pcs_flat (hs m (List.mem_cons_self ..)) fun q hq => hs q (List.mem_cons_of_mem _ hq)]
    rfl
/-- The text of a gate. -/
def gtT (g : Gt) : List UInt8 := nm g.k ++ ((gqs g).map itoa).flatMap fun m => 32 :: m
def gtxt (g : Gt) : ByteArray := if gtB g 4 then toB (gtT g) else toB []
theorem num_no2 {l : List UInt8} (h : Num l) {c : UInt8} (hc : c = 32 ∨ c = 10) : c ∉ l := by
  intro hm
  rcases h c hm with h | h
  · rcases hc with rfl | rfl <;> exact absurd h (by decide)
  · rcases hc with rfl | rfl <;> exact absurd h (by decide)
theorem gtT_pcs {g : Gt} (hk : 1 ≤ g.k ∧ g.k ≤ 12) : pcs 32 (toB (gtT g)) = nmB g.k :: (gqs g).map fun q => toB (itoa q) := by
  unfold gtT
  rw [pcs_flat (nm_plain hk).1 (fun m hm => by obtain ⟨q, -, rfl⟩ := List.mem_map.1 hm; exact num_no2 (itoa_num q) (.inl rfl)), toB_nm, List.map_map]
  rfl
theorem gtT_no10 {g : Gt} (hk : 1 ≤ g.k ∧ g.k ≤ 12) : (10 : UInt8) ∉ gtT g := by
  unfold gtT
  rw [List.mem_append, List.mem_flatMap]
  rintro (h | ⟨m, hm, h⟩)
  · exact (nm_plain hk).2.1 h
  · obtain ⟨q, -, rfl⟩ := List.mem_map.1 hm
    rcases List.mem_cons.1 h with h | h
    · exact absurd h (by decide)
    · exact num_no2 (itoa_num q) (.inr rfl) h
/-- What a valid gate's fields are. -/
theorem gtB_fields {g : Gt} {n : Int} (h : gtB g n = true) : (ar g.k = 1 ∧ gqs g = [g.a] ∧ g.b = 0 ∧ g.c = 0) ∨ (ar g.k = 2 ∧ gqs g = [g.a, g.b] ∧ g.c = 0) ∨ (ar g.k = 3 ∧ gqs g = [g.a, g.b, g.c]) := by
  obtain ⟨hn, hk, -⟩ := gtB_parts h
  obtain ⟨k, a, b, c⟩ := g
  have h3 := ar_le k
  have h0 : ar k ≠ 0 := fun e => by rw [gtB_zero e] at h; cases h
  rcases (show ar k = 1 ∨ ar k = 2 ∨ ar k = 3 by omega) with e | e | e
  · rw [gtB_1 e hn, Bool.and_eq_true, Bool.and_eq_true, decide_eq_true_eq, decide_eq_true_eq] at h
    exact .inl ⟨e, by unfold gqs; simp [e], h.1.1, h.1.2⟩
  · rw [gtB_2 e hn, Bool.and_eq_true, decide_eq_true_eq] at h
    exact .inr (.inl ⟨e, by unfold gqs; simp [e], h.1⟩)
  · exact .inr (.inr ⟨e, by unfold gqs; simp [e]⟩)
theorem itoa_small {n m : Int} (h : toB (itoa n) = toB (itoa m)) (a0 : 0 ≤ n) (a1 : n < 4) (b0 : 0 ≤ m) (b1 : m < 4) : n = m := itoa_inj64 (toB_inj h) (by omega) (by omega) (by omega) (by omega)
theorem gtT_inj {g h : Gt} (hg : gtB g 4 = true) (hh : gtB h 4 = true) (e : gtT g = gtT h) : g = h := by
  obtain ⟨-, gk, ga, gb, gc⟩ := gtB_parts hg
  obtain ⟨-, hk, ha, hb, hc⟩ := gtB_parts hh
  have e1 := gtT_pcs gk
  rw [e, gtT_pcs hk] at e1
  injection e1 with e2 e3
  have ek := nmB_inj gk hk e2.symm
  have fg := gtB_fields hg
  have fh := gtB_fields hh
  obtain ⟨k, a, b, c⟩ := g
  obtain ⟨m, a', b', c'⟩ := h
  simp only at ek
  subst ek
  simp only at fg fh ga gb gc ha hb hc
  rcases fg with ⟨r, q, z, z'⟩ | ⟨r, q, z⟩ | ⟨r, q⟩ <;> rcases fh with ⟨r', q', y, y'⟩ | ⟨r', q', y⟩ | ⟨r', q'⟩ <;> first | omega | skip
  · rw [q, q'] at e3
    simp only [List.map_cons, List.map_nil, List.cons.injEq, and_true] at e3
    rw [itoa_small e3 ha.1 ha.2 ga.1 ga.2, z, z', y, y']
  · rw [q, q'] at e3
    simp only [List.map_cons, List.map_nil, List.cons.injEq, and_true] at e3
    rw [itoa_small e3.1 ha.1 ha.2 ga.1 ga.2, itoa_small e3.2 hb.1 hb.2 gb.1 gb.2, z, y]
  · rw [q, q'] at e3
    simp only [List.map_cons, List.map_nil, List.cons.injEq, and_true] at e3
    rw [itoa_small e3.1 ha.1 ha.2 ga.1 ga.2, itoa_small e3.2.1 hb.1 hb.2 gb.1 gb.2, itoa_small e3.2.2 hc.1 hc.2 gc.1 gc.2]
/-- ParseGate: whether there is such a gate, and the gate. -/
noncomputable def pgB (s : ByteArray) : Bool := @decide (∃ g, gtB g 4 = true ∧ toB (gtT g) = s) (Classical.propDecidable _)
noncomputable def pgV (s : ByteArray) : Gt := by classical exact if h : ∃ g, gtB g 4 = true ∧ toB (gtT g) = s then h.choose else ⟨0, 0, 0, 0⟩
theorem pg_yes {g : Gt} {s : ByteArray} (h : gtB g 4 = true) (e : toB (gtT g) = s) : pgB s = true ∧ pgV s = g := by
  have hx : ∃ g, gtB g 4 = true ∧ toB (gtT g) = s := ⟨g, h, e⟩
  refine ⟨by unfold pgB; exact @decide_eq_true _ (Classical.propDecidable _) hx, ?_⟩
  unfold pgV
  rw [dif_pos hx]
  exact gtT_inj hx.choose_spec.1 h (toB_inj (hx.choose_spec.2.trans e.symm))
theorem pg_no {s : ByteArray} (h : ∀ g, gtB g 4 = true → toB (gtT g) ≠ s) : pgB s = false ∧ pgV s = ⟨0, 0, 0, 0⟩ := by
  have hx : ¬ ∃ g, gtB g 4 = true ∧ toB (gtT g) = s := fun ⟨g, h1, h2⟩ => h g h1 h2
  exact ⟨by unfold pgB; exact @decide_eq_false _ (Classical.propDecidable _) hx, by unfold pgV; rw [dif_neg hx]⟩
end Go.Proofs.Ytgicldokglpimaa
