/- BaseB13: several of our texts in one: GxO GxS. -/
import Derived.Test.YtckfklpgnneodaaBaseB09
import Derived.Test.YtckfklpgnneodaaGxL
import Derived.Deep.Slices
import Derived.Test.YtckfklpgnneodaaGxN
namespace Go.Proofs.Ytckfklpgnneodaa
open Go.ChangeShapes Go.WideShapes Go.ChangeAt Go.RowKit Go.Lib Go.Joins
theorem cellsLsG : Try.prog.cellsOf 32 = 1 := by kernel_rfl
set_option maxRecDepth 100000 in
set_option maxHeartbeats 400000 in
theorem row_openG {H : Type} {enc : TypeId × Value → H} {w : World} {base : Nat} {spare : Nat → Bool} {held : Bool} {fuel : Nat} {cs : List Value} {y : DataW H × List MemPlace}
    (h : DataW.trod enc Try.prog w base spare held fuel 32 cs = some y) : ∃ a0 cap l, cs = [.slice a0 (List.length l) cap] ∧ GsIn w w.heap.size a0 l := by
  rcases Deep.open_slice Try.underlying32 h with ⟨hcs, _⟩ | ⟨x, len, cap, m, n, D, Pl, hcs, _, hl, hm, hmm, _, hx⟩
  · subst hcs
    exact ⟨none, 0, [], rfl, Nat.zero_le _, fun h => absurd h (by simp)⟩
  · subst hcs
    have hlm : len ≤ m := by rw [hmm]; split <;> omega
    haveI : Inhabited Gt := ⟨⟨0, 0, 0, 0⟩⟩
    obtain ⟨X, hX⟩ := Deep.choose_lt (α := Gt) (p := fun i y => ∀ k, k < 4 → w.cell? ((x.add (i * 4)).add k) = (gtE.fl y)[k]?) (n := len) (fun i hi => by
      obtain ⟨cs', h1, h2⟩ := hx i (by omega)
      rw [cellsLg] at h1
      obtain ⟨_, _, h3⟩ := World.cells?_some h1
      obtain ⟨y, rfl⟩ := gt_cells h2
      exact ⟨y, h3⟩)
    have hlen : ((List.range len).map X).length = len := by simp
    refine ⟨some x, cap, (List.range len).map X, by rw [hlen], by rw [hlen]; omega, fun h0 => ?_⟩
    rw [hlen] at h0
    obtain ⟨b, off, spot⟩ := x
    have hc0 := hX 0 h0 0 (by omega)
    have e0 : ((⟨b, off, spot⟩ : Addr).add (0 * 4)).add 0 = ⟨b, off, spot⟩ := by simp [Addr.add]
    rw [e0] at hc0
    have hspot : spot = none := World.cell?_spot (v := .int .i64 (X 0).k) hc0
    subst hspot
    refine ⟨b, off, rfl, ?_, fun j y hy => ?_⟩
    · exact World.block_lt_of_cell? _ _ (show w.cell? ⟨b, off, none⟩ = some (.int .i64 (X 0).k) from hc0)
    · rw [List.getElem?_map] at hy
      have hj : j < len := by
        rcases Nat.lt_or_ge j len with h' | h'
        · exact h'
        · rw [List.getElem?_eq_none (by simpa using h')] at hy; cases hy
      rw [List.getElem?_range hj] at hy
      injection hy with hy
      have hY := hX j hj
      rw [hy] at hY
      have ha : ∀ k, (((⟨b, off, none⟩ : Addr).add (j * 4)).add k) = ⟨b, off + j * 4 + k, none⟩ := by
        intro k
        unfold Addr.add
        by_cases h1 : j * 4 = 0
        · by_cases h2 : k = 0
          · simp [h1, h2]
          · simp [h1, h2]
        · by_cases h2 : k = 0
          · simp [h1, h2]
          · simp [h1, h2]
      have h5 := fun k hk => (congrArg w.cell? (ha k)).symm.trans (hY k hk)
      exact ⟨h5 0 (by omega), h5 1 (by omega), h5 2 (by omega), h5 3 (by omega)⟩
set_option maxRecDepth 100000 in
set_option maxHeartbeats 400000 in
theorem open_mg {H : Type} {enc : TypeId × Value → H} {w : World} {spare : Nat → Bool} {held : Bool} {r : Reach} {b0 : Nat} {v : Value} {d : DataW H} {p : List MemPlace}
    (hv : Value.okWide Try.prog w r b0 45 v) (h : DataW.Trod enc Try.prog w 0 spare held 45 v d p) :
    ∃ a0 cap M, v = .slice a0 (List.length M) cap ∧ MgIn w w.heap.size a0 M := by
  obtain ⟨a0, len, cap, rfl⟩ := okWide_slice Try.underlying45 hv
  obtain ⟨fuel, hf⟩ := h
  rcases Deep.open_slice1 Try.underlying45 cellsLsG hf with ⟨hcs, _⟩ | ⟨x, l, c, m, n, V, D, Pl, hcs, _, hl, hm, hmm, _, hx⟩
  · simp [Value.cells] at hcs
    obtain ⟨rfl, rfl, rfl⟩ := hcs
    exact ⟨none, 0, [], rfl, Nat.zero_le _, fun h => absurd h (by simp)⟩
  · simp [Value.cells] at hcs
    obtain ⟨rfl, rfl, rfl⟩ := hcs
    have hlm : len ≤ m := by rw [hmm]; split <;> omega
    obtain ⟨X, hX⟩ := Deep.choose_lt (α := List Gt) (p := fun i l => ∃ a c, w.cell? (x.add i) = some (.slice a (List.length l) c) ∧ GsIn w w.heap.size a l) (n := len) (fun i hi => by
      obtain ⟨h1, h2⟩ := hx i (by omega)
      obtain ⟨a, c, l, e, hd⟩ := row_openG h2
      injection e with e
      exact ⟨l, a, c, by rw [h1, e], hd⟩)
    have hlen : ((List.range len).map X).length = len := by simp
    refine ⟨some x, cap, (List.range len).map X, by rw [hlen], by rw [hlen]; omega, fun h0 => ?_⟩
    rw [hlen] at h0
    obtain ⟨b, off, spot⟩ := x
    obtain ⟨a1, c1, hc0, _⟩ := hX 0 h0
    have e0 : ((⟨b, off, spot⟩ : Addr).add 0) = ⟨b, off, spot⟩ := by simp [Addr.add]
    rw [e0] at hc0
    have hspot : spot = none := World.cell?_spot hc0
    subst hspot
    refine ⟨b, off, rfl, ?_, fun j r hr => ?_⟩
    · exact World.block_lt_of_cell? _ _ hc0
    · rw [List.getElem?_map] at hr
      have hj : j < len := by
        rcases Nat.lt_or_ge j len with h' | h'
        · exact h'
        · rw [List.getElem?_eq_none (by simpa using h')] at hr; cases hr
      rw [List.getElem?_range hj] at hr
      injection hr with hr
      obtain ⟨a, c, h1, h2⟩ := hX j hj
      rw [hr] at h1 h2
      refine ⟨a, c, ?_, h2⟩
      rw [← h1]
      congr 1
      unfold Addr.add
      by_cases hj0 : j = 0
      · simp [hj0]
      · simp [hj0]
end Go.Proofs.Ytckfklpgnneodaa
namespace Go.Proofs.Ytckfklpgnneodaa
open Go.RowKit
theorem markMg1 (B C : Nat) (v : Value) (M : List (List Gt)) (w : World) (hv : GSM w B C v M) (hn : M.length ≤ 1048576) (hm : ampsG M ≤ 1048576) :
    Calls Try.prog 28 #[v, .int .i64 1] w fun e w' => e = .returned (.int .i64 (1 + (ampsG M : Int) * 4)) ∧ GSM w' B C v (marksMG 1 M) ∧ Mid B C w w' := by
  refine (markMg B C 1 v M w hv hn hm (by omega)).mono ?_
  rintro e w1 ⟨rfl, h⟩
  exact ⟨by simp, h⟩
theorem heldMg1 (B C : Nat) (v : Value) (M : List (List Gt)) (w : World) (hv : GSM w B C v (marksMG 1 M)) (hn : M.length ≤ 1048576) (hm : ampsG M ≤ 1048576) :
    Calls Try.prog 29 #[v, .int .i64 1] w fun e w' => e = .returned (.int .i64 (1 + (ampsG M : Int) * 4)) ∧ w = w' := by
  refine (heldMg B C 1 v M w hv hn hm (by omega)).mono ?_
  rintro e w1 ⟨rfl, h⟩
  exact ⟨by simp, h⟩
theorem flat_amps (M : List (List Gt)) : M.flatten.length = ampsG M := by simp [ampsG]
end Go.Proofs.Ytckfklpgnneodaa
