/- A slice of the laws' gates that comes in. -/
import Derived.Test.YtlmiebeffdcfhaaGsL
import Derived.Test.YtlmiebeffdcfhaaBaseB05
import Derived.Deep.Slices
namespace Go.Proofs.Ytlmiebeffdcfhaa
open Go.ChangeShapes Go.WideShapes Go.ChangeAt Go.RowKit Go.Lib Go.Joins
theorem cellsLg : Try.prog.cellsOf 23 = 4 := by kernel_rfl
set_option maxRecDepth 100000 in
set_option maxHeartbeats 400000 in
theorem gt_cells {H : Type} {enc : TypeId × Value → H} {w : World} {base : Nat} {spare : Nat → Bool} {held : Bool} {fuel : Nat} {cs : List Value} {y : DataW H × List MemPlace}
    (h : DataW.trod enc Try.prog w base spare held fuel 23 cs = some y) : ∃ x : Gt, cs = gtE.fl x := by
  obtain ⟨z0, z1, z2, z3, m, _, hl, g0, g1, g2, g3⟩ := trod_struct4 Try.underlying23 h
  match cs, hl.trans cellsLg with
  | [c0, c1, c2, c3], _ =>
    simp [cells_in] at g0 g1 g2 g3
    obtain ⟨a, ea, -, -⟩ := DataW.trod_int Try.underlying3 g0
    obtain ⟨b, eb, -, -⟩ := DataW.trod_int Try.underlying3 g1
    obtain ⟨c, ec, -, -⟩ := DataW.trod_int Try.underlying3 g2
    obtain ⟨e, ed, -, -⟩ := DataW.trod_int Try.underlying3 g3
    obtain rfl := List.head_eq_of_cons_eq ea
    obtain rfl := List.head_eq_of_cons_eq eb
    obtain rfl := List.head_eq_of_cons_eq ec
    obtain rfl := List.head_eq_of_cons_eq ed
    exact ⟨⟨a, b, c, e⟩, rfl⟩
set_option maxRecDepth 100000 in
set_option maxHeartbeats 400000 in
theorem open_gs {H : Type} {enc : TypeId × Value → H} {w : World} {spare : Nat → Bool} {held : Bool} {r : Reach} {b0 : Nat} {v : Value} {d : DataW H} {p : List MemPlace}
    (hv : Value.okWide Try.prog w r b0 32 v) (h : DataW.Trod enc Try.prog w 0 spare held 32 v d p) :
    ∃ a0 cap l, v = .slice a0 (List.length l) cap ∧ GsIn w w.heap.size a0 l := by
  obtain ⟨a0, len, cap, rfl⟩ := okWide_slice Try.underlying32 hv
  obtain ⟨fuel, hf⟩ := h
  rcases Deep.open_slice Try.underlying32 hf with ⟨hcs, _⟩ | ⟨x, l, c, m, n, D, Pl, hcs, _, hl, hm, hmm, _, hx⟩
  · simp [Value.cells] at hcs
    obtain ⟨rfl, rfl, rfl⟩ := hcs
    exact ⟨none, 0, [], rfl, Nat.zero_le _, fun h => absurd h (by simp)⟩
  · simp [Value.cells] at hcs
    obtain ⟨rfl, rfl, rfl⟩ := hcs
    have hlm : len ≤ m := by rw [hmm]; split <;> omega
    haveI : Inhabited Gt := ⟨⟨0, 0, 0, 0⟩⟩
    obtain ⟨X, hX⟩ := Deep.choose_lt (α := Gt) (p := fun i y => ∀ k, k < 4 → w.cell? ((x.add (i * 4)).add k) = (gtE.fl y)[k]?) (n := len) (fun i hi => by
      obtain ⟨cs', h1, h2⟩ := hx i (by omega)
      rw [cellsLg] at h1
      obtain ⟨_, _, h3⟩ := World.cells?_some h1
      obtain ⟨y, rfl⟩ := gt_cells h2
      exact ⟨y, h3⟩)
    have hlen : ((List.range len).map X).length = len := by simp
    refine ⟨some x, cap, (List.range len).map X, by rw [hlen], by rw [hlen]; omega, fun h0 => ?_⟩
    rw [hlen] at h0
    obtain ⟨b, off, spot⟩ := x
    have hc0 := hX 0 h0 0 (by omega)
    have e0 : ((⟨b, off, spot⟩ : Addr).add (0 * 4)).add 0 = ⟨b, off, spot⟩ := by simp [Addr.add]
    rw [e0] at hc0
    have hspot : spot = none := World.cell?_spot (v := .int .i64 (X 0).k) hc0
    subst hspot
    refine ⟨b, off, rfl, ?_, fun j y hy => ?_⟩
    · exact World.block_lt_of_cell? _ _ (show w.cell? ⟨b, off, none⟩ = some (.int .i64 (X 0).k) from hc0)
    · rw [List.getElem?_map] at hy
      have hj : j < len := by
        rcases Nat.lt_or_ge j len with h' | h'
        · exact h'
        · rw [List.getElem?_eq_none (by simpa using h')] at hy; cases hy
      rw [List.getElem?_range hj] at hy
      injection hy with hy
      have hY := hX j hj
      rw [hy] at hY
      have ha : ∀ k, (((⟨b, off, none⟩ : Addr).add (j * 4)).add k) = ⟨b, off + j * 4 + k, none⟩ := by
        intro k
        unfold Addr.add
        by_cases h1 : j * 4 = 0
        · by_cases h2 : k = 0
          · simp [h1, h2]
          · simp [h1, h2]
        · by_cases h2 : k = 0
          · simp [h1, h2]
          · simp [h1, h2]
      have h5 := fun k hk => (congrArg w.cell? (ha k)).symm.trans (hY k hk)
      exact ⟨h5 0 (by omega), h5 1 (by omega), h5 2 (by omega), h5 3 (by omega)⟩
end Go.Proofs.Ytlmiebeffdcfhaa
