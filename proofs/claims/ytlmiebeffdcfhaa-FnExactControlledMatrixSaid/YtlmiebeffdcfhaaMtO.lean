/- A matrix of the laws' fractions that comes in. -/
import Derived.Test.YtlmiebeffdcfhaaBaseB18
import Derived.Test.YtlmiebeffdcfhaaBaseB08
import Derived.Deep.Slices
namespace Go.Proofs.Ytlmiebeffdcfhaa
open Go.ChangeShapes Go.WideShapes Go.ChangeAt Go.RowKit Go.Lib Go.Joins
theorem cellsLs : Try.prog.cellsOf 59 = 1 := by kernel_rfl
set_option maxRecDepth 100000 in
set_option maxHeartbeats 400000 in
theorem row_open {H : Type} {enc : TypeId × Value → H} {w : World} {base : Nat} {spare : Nat → Bool} {held : Bool} {fuel : Nat} {cs : List Value} {y : DataW H × List MemPlace}
    (h : DataW.trod enc Try.prog w base spare held fuel 59 cs = some y) : ∃ a0 cap l, cs = [.slice a0 (List.length l) cap] ∧ DsIn w w.heap.size a0 l := by
  rcases Deep.open_slice Try.underlying59 h with ⟨hcs, _⟩ | ⟨x, len, cap, m, n, D, Pl, hcs, _, hl, hm, hmm, _, hx⟩
  · subst hcs
    refine ⟨none, 0, [], rfl, ?_⟩
    exact ⟨Nat.zero_le _, fun y hy => absurd hy List.not_mem_nil, fun h => absurd h (by simp)⟩
  · subst hcs
    have hlm : len ≤ m := by rw [hmm]; split <;> omega
    haveI : Inhabited Dw := ⟨.zero⟩
    obtain ⟨X, hX⟩ := Deep.choose_lt (α := Dw) (p := fun i y => (∀ k, k < 5 → w.cell? ((x.add (i * 5)).add k) = (fl y)[k]?) ∧ -9223372036854775808 ≤ y.e ∧ y.e ≤ 9223372036854775807) (n := len) (fun i hi => by
      obtain ⟨cs', h1, h2⟩ := hx i (by omega)
      rw [cellsLw] at h1
      obtain ⟨_, _, h3⟩ := World.cells?_some h1
      obtain ⟨y, rfl, b0, b1⟩ := dw_cells h2
      exact ⟨y, h3, b0, b1⟩)
    have hlen : ((List.range len).map X).length = len := by simp
    refine ⟨some x, cap, (List.range len).map X, by rw [hlen], by rw [hlen]; omega, fun y hy => ?_, fun h0 => ?_⟩
    · obtain ⟨i, hi, rfl⟩ := List.mem_map.1 hy
      exact (hX i (List.mem_range.1 hi)).2
    · rw [hlen] at h0
      obtain ⟨b, off, spot⟩ := x
      have hc0 := (hX 0 h0).1 0 (by omega)
      have e0 : ((⟨b, off, spot⟩ : Addr).add (0 * 5)).add 0 = ⟨b, off, spot⟩ := by simp [Addr.add]
      rw [e0] at hc0
      have hspot : spot = none := World.cell?_spot (v := .int .i64 (X 0).n.a) hc0
      subst hspot
      refine ⟨b, off, rfl, ?_, fun j y hy => ?_⟩
      · exact World.block_lt_of_cell? _ _ (show w.cell? ⟨b, off, none⟩ = some (.int .i64 (X 0).n.a) from hc0)
      · rw [List.getElem?_map] at hy
        have hj : j < len := by
          rcases Nat.lt_or_ge j len with h' | h'
          · exact h'
          · rw [List.getElem?_eq_none (by simpa using h')] at hy; cases hy
        rw [List.getElem?_range hj] at hy
        injection hy with hy
        have hY := (hX j hj).1
        rw [hy] at hY
        have ha : ∀ k, (((⟨b, off, none⟩ : Addr).add (j * 5)).add k) = ⟨b, off + j * 5 + k, none⟩ := by
          intro k
          unfold Addr.add
          by_cases h1 : j * 5 = 0
          · by_cases h2 : k = 0
            · simp [h1, h2]
            · simp [h1, h2]
          · by_cases h2 : k = 0
            · simp [h1, h2]
            · simp [h1, h2]
        have h5 := fun k hk => (congrArg w.cell? (ha k)).symm.trans (hY k hk)
        exact ⟨h5 0 (by omega), h5 1 (by omega), h5 2 (by omega), h5 3 (by omega), h5 4 (by omega)⟩
set_option maxRecDepth 100000 in
set_option maxHeartbeats 400000 in
theorem open_mt {H : Type} {enc : TypeId × Value → H} {w : World} {spare : Nat → Bool} {held : Bool} {r : Reach} {b0 : Nat} {v : Value} {d : DataW H} {p : List MemPlace}
    (hv : Value.okWide Try.prog w r b0 37 v) (h : DataW.Trod enc Try.prog w 0 spare held 37 v d p) :
    ∃ a0 cap M, v = .slice a0 (List.length M) cap ∧ MtIn w w.heap.size a0 M := by
  obtain ⟨a0, len, cap, rfl⟩ := okWide_slice Try.underlying37 hv
  obtain ⟨fuel, hf⟩ := h
  rcases Deep.open_slice1 Try.underlying37 cellsLs hf with ⟨hcs, _⟩ | ⟨x, l, c, m, n, V, D, Pl, hcs, _, hl, hm, hmm, _, hx⟩
  · simp [Value.cells] at hcs
    obtain ⟨rfl, rfl, rfl⟩ := hcs
    exact ⟨none, 0, [], rfl, Nat.zero_le _, fun h => absurd h (by simp)⟩
  · simp [Value.cells] at hcs
    obtain ⟨rfl, rfl, rfl⟩ := hcs
    have hlm : len ≤ m := by rw [hmm]; split <;> omega
    obtain ⟨X, hX⟩ := Deep.choose_lt (α := List Dw) (p := fun i l => ∃ a c, w.cell? (x.add i) = some (.slice a (List.length l) c) ∧ DsIn w w.heap.size a l) (n := len) (fun i hi => by
      obtain ⟨h1, h2⟩ := hx i (by omega)
      obtain ⟨a, c, l, e, hd⟩ := row_open h2
      injection e with e
      exact ⟨l, a, c, by rw [h1, e], hd⟩)
    have hlen : ((List.range len).map X).length = len := by simp
    refine ⟨some x, cap, (List.range len).map X, by rw [hlen], by rw [hlen]; omega, fun h0 => ?_⟩
    rw [hlen] at h0
    obtain ⟨b, off, spot⟩ := x
    obtain ⟨a1, c1, hc0, _⟩ := hX 0 h0
    have e0 : ((⟨b, off, spot⟩ : Addr).add 0) = ⟨b, off, spot⟩ := by simp [Addr.add]
    rw [e0] at hc0
    have hspot : spot = none := World.cell?_spot hc0
    subst hspot
    refine ⟨b, off, rfl, ?_, fun j r hr => ?_⟩
    · exact World.block_lt_of_cell? _ _ hc0
    · rw [List.getElem?_map] at hr
      have hj : j < len := by
        rcases Nat.lt_or_ge j len with h' | h'
        · exact h'
        · rw [List.getElem?_eq_none (by simpa using h')] at hr; cases hr
      rw [List.getElem?_range hj] at hr
      injection hr with hr
      obtain ⟨a, c, h1, h2⟩ := hX j hj
      rw [hr] at h1 h2
      refine ⟨a, c, ?_, h2⟩
      rw [← h1]
      congr 1
      unfold Addr.add
      by_cases hj0 : j = 0
      · simp [hj0]
      · simp [hj0]
end Go.Proofs.Ytlmiebeffdcfhaa
