/- A slice of the laws' tokens that comes in. -/
import Derived.Test.YtgicldokglpimaaTkL
import Derived.Test.YtgicldokglpimaaBaseB05
import Derived.Deep.Slices
namespace Go.Proofs.Ytgicldokglpimaa
open Go.ChangeShapes Go.WideShapes Go.ChangeAt Go.RowKit Go.Lib Go.Joins
theorem cellsLt : Try.prog.cellsOf 36 = 2 := by kernel_rfl
set_option maxRecDepth 100000 in
set_option maxHeartbeats 400000 in
theorem tk_cells {H : Type} {enc : TypeId × Value → H} {w : World} {base : Nat} {spare : Nat → Bool} {held : Bool} {fuel : Nat} {cs : List Value} {y : DataW H × List MemPlace}
    (h : DataW.trod enc Try.prog w base spare held fuel 36 cs = some y) : ∃ x : Tk, cs = tkE.fl x ∧ x.s.length ≤ maxLen := by
  obtain ⟨z0, z1, m, _, hl, g0, g1⟩ := trod_struct2 Try.underlying36 h
  match cs, hl.trans cellsLt with
  | [c0, c1], _ =>
    simp [cells_in] at g0 g1
    obtain ⟨a, ea, -, -⟩ := DataW.trod_int Try.underlying3 g0
    obtain ⟨b, eb, -, hb⟩ := DataW.trod_string Try.underlying9 g1
    obtain rfl := List.head_eq_of_cons_eq ea
    obtain rfl := List.head_eq_of_cons_eq eb
    exact ⟨⟨a, bs b⟩, by simp [tkE, sb_bs], by rw [bs_len]; exact hb⟩
set_option maxRecDepth 100000 in
set_option maxHeartbeats 400000 in
theorem open_tks {H : Type} {enc : TypeId × Value → H} {w : World} {spare : Nat → Bool} {held : Bool} {r : Reach} {b0 : Nat} {v : Value} {d : DataW H} {p : List MemPlace}
    (hv : Value.okWide Try.prog w r b0 40 v) (h : DataW.Trod enc Try.prog w 0 spare held 40 v d p) :
    ∃ a0 cap l, v = .slice a0 (List.length l) cap ∧ TkIn w w.heap.size a0 l := by
  obtain ⟨a0, len, cap, rfl⟩ := okWide_slice Try.underlying40 hv
  obtain ⟨fuel, hf⟩ := h
  rcases Deep.open_slice Try.underlying40 hf with ⟨hcs, _⟩ | ⟨x, l, c, m, n, D, Pl, hcs, _, hl, hm, hmm, _, hx⟩
  · simp [Value.cells] at hcs
    obtain ⟨rfl, rfl, rfl⟩ := hcs
    exact ⟨none, 0, [], rfl, Nat.zero_le _, fun x hx => absurd hx List.not_mem_nil, fun h => absurd h (by simp)⟩
  · simp [Value.cells] at hcs
    obtain ⟨rfl, rfl, rfl⟩ := hcs
    have hlm : len ≤ m := by rw [hmm]; split <;> omega
    haveI : Inhabited Tk := ⟨⟨0, []⟩⟩
    obtain ⟨X, hX⟩ := Deep.choose_lt (α := Tk) (p := fun i y => y.s.length ≤ maxLen ∧ ∀ k, k < 2 → w.cell? ((x.add (i * 2)).add k) = (tkE.fl y)[k]?) (n := len) (fun i hi => by
      obtain ⟨cs', h1, h2⟩ := hx i (by omega)
      rw [cellsLt] at h1
      obtain ⟨_, _, h3⟩ := World.cells?_some h1
      obtain ⟨y, rfl, hy⟩ := tk_cells h2
      exact ⟨y, hy, h3⟩)
    have hlen : ((List.range len).map X).length = len := by simp
    refine ⟨some x, cap, (List.range len).map X, by rw [hlen], by rw [hlen]; omega, fun x hx => ?_, fun h0 => ?_⟩
    · obtain ⟨i, hi, rfl⟩ := List.mem_map.1 hx
      exact (hX i (List.mem_range.1 hi)).1
    rw [hlen] at h0
    obtain ⟨b, off, spot⟩ := x
    have hc0 := (hX 0 h0).2 0 (by omega)
    have e0 : ((⟨b, off, spot⟩ : Addr).add (0 * 2)).add 0 = ⟨b, off, spot⟩ := by simp [Addr.add]
    rw [e0] at hc0
    have hspot : spot = none := World.cell?_spot (v := .int .i64 (X 0).k) hc0
    subst hspot
    refine ⟨b, off, rfl, ?_, fun j y hy => ?_⟩
    · exact World.block_lt_of_cell? _ _ (show w.cell? ⟨b, off, none⟩ = some (.int .i64 (X 0).k) from hc0)
    · rw [List.getElem?_map] at hy
      have hj : j < len := by
        rcases Nat.lt_or_ge j len with h' | h'
        · exact h'
        · rw [List.getElem?_eq_none (by simpa using h')] at hy; cases hy
      rw [List.getElem?_range hj] at hy
      injection hy with hy
      have hY := (hX j hj).2
      rw [hy] at hY
      have ha : ∀ k, (((⟨b, off, none⟩ : Addr).add (j * 2)).add k) = ⟨b, off + j * 2 + k, none⟩ := by
        intro k
        unfold Addr.add
        by_cases h1 : j * 2 = 0
        · by_cases h2 : k = 0
          · simp [h1, h2]
          · simp [h1, h2]
        · by_cases h2 : k = 0
          · simp [h1, h2]
          · simp [h1, h2]
      have h5 := fun k hk => (congrArg w.cell? (ha k)).symm.trans (hY k hk)
      exact ⟨h5 0 (by omega), h5 1 (by omega)⟩
end Go.Proofs.Ytgicldokglpimaa
