/- B16: several of our texts in one: GsO AgV AgN ApM AgM ApG CmA CiO CpM CiS CiT. -/
import Derived.Test.YtbnkanlebjpkfaaDoorGsL
import Derived.Test.YtbnkanlebjpkfaaDoorB02
import Derived.Deep.Slices
import Derived.Test.YtbnkanlebjpkfaaDoorB13
import Derived.Test.YtbnkanlebjpkfaaDoorB15
import Derived.Test.YtbnkanlebjpkfaaDoorB14
import Derived.Test.YtbnkanlebjpkfaaDoorB12
import Derived.Test.YtbnkanlebjpkfaaDoorB03
import Derived.Laws.StructEq
namespace Go.Proofs.YtbnkanlebjpkfaaDoor
open Go.ChangeShapes Go.WideShapes Go.ChangeAt Go.RowKit Go.Lib Go.Joins
theorem cellsLg : Tryd.prog.cellsOf 23 = 4 := by kernel_rfl
set_option maxRecDepth 100000 in
set_option maxHeartbeats 400000 in
theorem gt_cells {H : Type} {enc : TypeId × Value → H} {w : World} {base : Nat} {spare : Nat → Bool} {held : Bool} {fuel : Nat} {cs : List Value} {y : DataW H × List MemPlace}
    (h : DataW.trod enc Tryd.prog w base spare held fuel 23 cs = some y) : ∃ x : Gt, cs = gtE.fl x := by
  obtain ⟨z0, z1, z2, z3, m, _, hl, g0, g1, g2, g3⟩ := trod_struct4 Tryd.underlying23 h
  match cs, hl.trans cellsLg with
  | [c0, c1, c2, c3], _ =>
    simp [cells_in] at g0 g1 g2 g3
    obtain ⟨a, ea, -, -⟩ := DataW.trod_int Tryd.underlying3 g0
    obtain ⟨b, eb, -, -⟩ := DataW.trod_int Tryd.underlying3 g1
    obtain ⟨c, ec, -, -⟩ := DataW.trod_int Tryd.underlying3 g2
    obtain ⟨e, ed, -, -⟩ := DataW.trod_int Tryd.underlying3 g3
    obtain rfl := List.head_eq_of_cons_eq ea
    obtain rfl := List.head_eq_of_cons_eq eb
    obtain rfl := List.head_eq_of_cons_eq ec
    obtain rfl := List.head_eq_of_cons_eq ed
    exact ⟨⟨a, b, c, e⟩, rfl⟩
end Go.Proofs.YtbnkanlebjpkfaaDoor
namespace Go.Proofs.YtbnkanlebjpkfaaDoor
/-- The numerator over the sixtieth power of the root. -/
def vl (x : Dw) : Zw := rootN (60 - x.e.toNat) x.n
end Go.Proofs.YtbnkanlebjpkfaaDoor
namespace Go.Proofs.YtbnkanlebjpkfaaDoor
end Go.Proofs.YtbnkanlebjpkfaaDoor
namespace Go.Proofs.YtbnkanlebjpkfaaDoor
open Go.RowKit
attribute [local irreducible] World.cell?
end Go.Proofs.YtbnkanlebjpkfaaDoor
namespace Go.Proofs.YtbnkanlebjpkfaaDoor
end Go.Proofs.YtbnkanlebjpkfaaDoor
namespace Go.Proofs.YtbnkanlebjpkfaaDoor
open Go.RowKit
theorem GsIn.empty {w : World} {B : Nat} {a : Option Addr} {l : List Gt} (h : l.length = 0) : GsIn w B a l := ⟨by omega, fun h0 => absurd h0 (by omega)⟩
theorem szGfit (a0 : Option Addr) (n cap : Nat) (l : Int) (w : World) (h : (n : Int) ≤ l) (l0 : 0 ≤ l) (l1 : l ≤ 1048576) :
    Calls Tryd.prog 40 #[.slice a0 n cap, .int .i64 l] w fun e w' => e = .returned (.int .i64 (l - n)) ∧ w = w' := by
  have h2 := szGs a0 n cap l w (by unfold maxLen; omega) l0 l1
  rwa [if_pos h] at h2
theorem szGbig (a0 : Option Addr) (n cap : Nat) (l : Int) (w : World) (hn : n ≤ maxLen) (h : ¬ (n : Int) ≤ l) (l0 : 0 ≤ l) (l1 : l ≤ 1048576) :
    Calls Tryd.prog 40 #[.slice a0 n cap, .int .i64 l] w fun e w' => e = .returned (.int .i64 (-1)) ∧ w = w' := by
  have h2 := szGs a0 n cap l w hn l0 l1
  rwa [if_neg h] at h2
attribute [local irreducible] World.cell?
end Go.Proofs.YtbnkanlebjpkfaaDoor
namespace Go.Proofs.YtbnkanlebjpkfaaDoor
open Go.RowKit
def Ok (l : List Dw) : Prop := ∀ x ∈ l, x.ok
theorem Ok.set {l : List Dw} (h : Ok l) (j : Nat) {x : Dw} (hx : x.ok) : Ok (l.set j x) := fun y hy => by
  rcases List.mem_or_eq_of_mem_set hy with hy | rfl
  · exact h y hy
  · exact hx
theorem Ok.eb {l : List Dw} (h : Ok l) : Eb l := fun x hx => by
  obtain ⟨_, h0, h1, _⟩ := h x hx
  omega
attribute [local irreducible] World.cell?
end Go.Proofs.YtbnkanlebjpkfaaDoor
namespace Go.Proofs.YtbnkanlebjpkfaaDoor
open Go.ChangeShapes Go.WideShapes Go.ChangeAt Go.RowKit Go.Lib Go.Joins
set_option maxRecDepth 100000 in
set_option maxHeartbeats 400000 in
theorem open_gs1 {H : Type} {enc : TypeId × Value → H} {w : World} {spare : Nat → Bool} {held : Bool} {fuel : Nat} {v : Value} {y : DataW H × List MemPlace}
    (hf : DataW.trod enc Tryd.prog w 0 spare held fuel 32 [v] = some y) :
    ∃ a0 cap l, v = .slice a0 (List.length l) cap ∧ GsIn w w.heap.size a0 l := by
  rcases Deep.open_slice Tryd.underlying32 hf with ⟨hcs, _⟩ | ⟨x, len, cap, m, n, D, Pl, hcs, _, hl, hm, hmm, _, hx⟩
  · obtain rfl := List.head_eq_of_cons_eq hcs
    exact ⟨none, 0, [], rfl, Nat.zero_le _, fun h => absurd h (by simp)⟩
  · obtain rfl := List.head_eq_of_cons_eq hcs
    have hlm : len ≤ m := by rw [hmm]; split <;> omega
    haveI : Inhabited Gt := ⟨⟨0, 0, 0, 0⟩⟩
    obtain ⟨X, hX⟩ := Deep.choose_lt (α := Gt) (p := fun i y => ∀ k, k < 4 → w.cell? ((x.add (i * 4)).add k) = (gtE.fl y)[k]?) (n := len) (fun i hi => by
      obtain ⟨cs', h1, h2⟩ := hx i (by omega)
      rw [cellsLg] at h1
      obtain ⟨_, _, h3⟩ := World.cells?_some h1
      obtain ⟨y, rfl⟩ := gt_cells h2
      exact ⟨y, h3⟩)
    have hlen : ((List.range len).map X).length = len := by simp
    refine ⟨some x, cap, (List.range len).map X, by rw [hlen], by rw [hlen]; omega, fun h0 => ?_⟩
    rw [hlen] at h0
    obtain ⟨b, off, spot⟩ := x
    have hc0 := hX 0 h0 0 (by omega)
    have e0 : ((⟨b, off, spot⟩ : Addr).add (0 * 4)).add 0 = ⟨b, off, spot⟩ := by simp [Addr.add]
    rw [e0] at hc0
    have hspot : spot = none := World.cell?_spot (v := .int .i64 (X 0).k) hc0
    subst hspot
    refine ⟨b, off, rfl, ?_, fun j y hy => ?_⟩
    · exact World.block_lt_of_cell? _ _ (show w.cell? ⟨b, off, none⟩ = some (.int .i64 (X 0).k) from hc0)
    · rw [List.getElem?_map] at hy
      have hj : j < len := by
        rcases Nat.lt_or_ge j len with h' | h'
        · exact h'
        · rw [List.getElem?_eq_none (by simpa using h')] at hy; cases hy
      rw [List.getElem?_range hj] at hy
      injection hy with hy
      have hY := hX j hj
      rw [hy] at hY
      have ha : ∀ k, (((⟨b, off, none⟩ : Addr).add (j * 4)).add k) = ⟨b, off + j * 4 + k, none⟩ := by
        intro k
        unfold Addr.add
        by_cases h1 : j * 4 = 0
        · by_cases h2 : k = 0
          · simp [h1, h2]
          · simp [h1, h2]
        · by_cases h2 : k = 0
          · simp [h1, h2]
          · simp [h1, h2]
      have h5 := fun k hk => (congrArg w.cell? (ha k)).symm.trans (hY k hk)
      exact ⟨h5 0 (by omega), h5 1 (by omega), h5 2 (by omega), h5 3 (by omega)⟩
end Go.Proofs.YtbnkanlebjpkfaaDoor
namespace Go.Proofs.YtbnkanlebjpkfaaDoor
/-- The matrix M represents, over the root's power s, the coefficients C (from the column to the row). -/
def Rep (M : List (List Dw)) (N s : Nat) (C : Nat → Nat → Zw) : Prop :=
  M.length = N ∧ (∀ r ∈ M, r.length = N ∧ ∀ x ∈ r, x.ok) ∧ ∀ k, k < N → ∀ i, i < N → rootN s (vl ((M.getD k []).getD i .zero)) = rootN 60 (C i k)
theorem Rep.row {M : List (List Dw)} {N s : Nat} {C : Nat → Nat → Zw} (h : Rep M N s C) {k : Nat} (hk : k < N) : ∃ r, M[k]? = some r ∧ M.getD k [] = r ∧ r.length = N ∧ ∀ x ∈ r, x.ok := by
  have hl : k < M.length := by rw [h.1]; exact hk
  refine ⟨M[k], List.getElem?_eq_getElem hl, ?_, h.2.1 _ (List.getElem_mem hl)⟩
  rw [List.getD_eq_getElem?_getD, List.getElem?_eq_getElem hl]
  rfl
end Go.Proofs.YtbnkanlebjpkfaaDoor
namespace Go.Proofs.YtbnkanlebjpkfaaDoor
open Go.RowKit
def eqGB (x y : Gt) : Bool := x.k == y.k && (x.a == y.a && (x.b == y.b && x.c == y.c))
theorem eqGB_iff {x y : Gt} : eqGB x y = true ↔ x = y := by
  simp only [eqGB, Bool.and_eq_true, beq_iff_eq]
  exact ⟨fun ⟨h0, h1, h2, h3⟩ => by cases x; cases y; simp_all, fun h => by subst h; exact ⟨rfl, rfl, rfl, rfl⟩⟩
instance : DecidableEq Gt := fun x y => if h : eqGB x y = true then .isTrue (eqGB_iff.1 h) else .isFalse fun k => h (eqGB_iff.2 k)
attribute [local irreducible] World.cell?
theorem infoG3 : (Tryd.prog.info? 25).map (fun i => (i.zero, i.size, i.bytes)) = some (some (.agg #[.int .i64 0, .int .i64 0, .int .i64 0, .int .i64 0]), 4, 32) := by kernel_rfl
end Go.Proofs.YtbnkanlebjpkfaaDoor
namespace Go.Proofs.YtbnkanlebjpkfaaDoor
open Go.RowKit
attribute [local irreducible] World.cell?
end Go.Proofs.YtbnkanlebjpkfaaDoor
