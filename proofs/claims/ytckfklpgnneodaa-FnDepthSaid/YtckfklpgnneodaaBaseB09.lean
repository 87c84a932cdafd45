/- BaseB09: several of our texts in one: AgV AgN ApC ApD ApM GsO CmA CiO. -/
import Derived.Test.YtckfklpgnneodaaBaseB06
import Derived.Test.YtckfklpgnneodaaBaseB08
import Derived.Test.YtckfklpgnneodaaBaseB11
import Derived.Test.YtckfklpgnneodaaBaseB07
import Derived.Test.YtckfklpgnneodaaGsL
import Derived.Test.YtckfklpgnneodaaBaseB04
import Derived.Deep.Slices
namespace Go.Proofs.Ytckfklpgnneodaa
theorem dAddB_ok {x y : Dw} (h : dAddB x y = true) : x.ok ∧ y.ok := ⟨(dAddB_iff.1 h).1, (dAddB_iff.1 h).2.1⟩
theorem dMulB_ok {x y : Dw} (h : dMulB x y = true) : x.ok ∧ y.ok := ⟨(dMulB_iff.1 h).1, (dMulB_iff.1 h).2.1⟩
/-- The numerator over the sixtieth power of the root. -/
def vl (x : Dw) : Zw := rootN (60 - x.e.toNat) x.n
theorem vl_add {x y : Dw} (h : dAddB x y = true) : vl (dAddV x y) = (vl x).add (vl y) := by
  have ha := adds_of h
  have hx := (dAddB_ok h).1.2.2.1
  have hy := (dAddB_ok h).2.2.2.1
  have hs := (dAddV_ok h).2.2.1
  generalize dAddV x y = s at *
  unfold Adds at ha
  apply rootN_inj (k := x.e.toNat + y.e.toNat + s.e.toNat)
  unfold vl
  rw [rootN_addZ, ← rootN_add, ← rootN_add, ← rootN_add, show 60 - s.e.toNat + (x.e.toNat + y.e.toNat + s.e.toNat) = (x.e.toNat + y.e.toNat) + 60 by omega, rootN_add, ha, ← rootN_add, rootN_addZ, ← rootN_add, ← rootN_add]
  congr 1 <;> congr 1 <;> omega
theorem vl_mul {x y : Dw} (h : dMulB x y = true) : rootN 60 (vl (dMulV x y)) = (vl x).mul (vl y) := by
  have ha := muls_of h
  have hx := (dMulB_ok h).1.2.2.1
  have hy := (dMulB_ok h).2.2.2.1
  have hs := (dMulV_ok h).2.2.1
  generalize dMulV x y = s at *
  unfold Muls at ha
  apply rootN_inj (k := x.e.toNat + y.e.toNat + s.e.toNat)
  unfold vl
  rw [← rootN_mul2, ← rootN_add, ← rootN_add, ← rootN_add, show 60 - s.e.toNat + (60 + (x.e.toNat + y.e.toNat + s.e.toNat)) = (x.e.toNat + y.e.toNat) + 120 by omega, rootN_add, ha, ← rootN_add]
  congr 1; omega
/-- A factor over the root. -/
def wt (b : Dw) : Zw := rootN (1 - b.e.toNat) b.n
/-- A sum of n numbers. -/
def sumZ : Nat → (Nat → Zw) → Zw
  | 0, _ => .zero
  | n + 1, f => (sumZ n f).add (f n)
/-- What a list of places gives to place j. -/
def cf : List (Nat × Dw) → Nat → Zw
  | [], _ => .zero
  | p :: r, j => if p.1 = j then (wt p.2).add (cf r j) else cf r j
end Go.Proofs.Ytckfklpgnneodaa
namespace Go.Proofs.Ytckfklpgnneodaa
end Go.Proofs.Ytckfklpgnneodaa
namespace Go.Proofs.Ytckfklpgnneodaa
open Go.RowKit
attribute [local irreducible] World.cell?
end Go.Proofs.Ytckfklpgnneodaa
namespace Go.Proofs.Ytckfklpgnneodaa
open Go.RowKit
theorem flat_plain : ∀ l : List Dw, ∀ u ∈ flat l, u.oneCell' = true
  | [], u, h => by simp [flat] at h
  | x :: l, u, h => by
    rw [flat, List.mem_append] at h
    rcases h with h | h
    · exact fl_plain x u h
    · exact flat_plain l u h
attribute [local irreducible] World.cell?
end Go.Proofs.Ytckfklpgnneodaa
namespace Go.Proofs.Ytckfklpgnneodaa
open Go.RowKit
attribute [local irreducible] World.cell?
end Go.Proofs.Ytckfklpgnneodaa
namespace Go.Proofs.Ytckfklpgnneodaa
open Go.ChangeShapes Go.WideShapes Go.ChangeAt Go.RowKit Go.Lib Go.Joins
theorem cellsLg : Try.prog.cellsOf 94 = 4 := by kernel_rfl
set_option maxRecDepth 100000 in
set_option maxHeartbeats 400000 in
theorem gt_cells {H : Type} {enc : TypeId × Value → H} {w : World} {base : Nat} {spare : Nat → Bool} {held : Bool} {fuel : Nat} {cs : List Value} {y : DataW H × List MemPlace}
    (h : DataW.trod enc Try.prog w base spare held fuel 94 cs = some y) : ∃ x : Gt, cs = gtE.fl x := by
  obtain ⟨z0, z1, z2, z3, m, _, hl, g0, g1, g2, g3⟩ := trod_struct4 Try.underlying94 h
  match cs, hl.trans cellsLg with
  | [c0, c1, c2, c3], _ =>
    simp [cells_in] at g0 g1 g2 g3
    obtain ⟨a, ea, -, -⟩ := DataW.trod_int Try.underlying3 g0
    obtain ⟨b, eb, -, -⟩ := DataW.trod_int Try.underlying3 g1
    obtain ⟨c, ec, -, -⟩ := DataW.trod_int Try.underlying3 g2
    obtain ⟨e, ed, -, -⟩ := DataW.trod_int Try.underlying3 g3
    obtain rfl := List.head_eq_of_cons_eq ea
    obtain rfl := List.head_eq_of_cons_eq eb
    obtain rfl := List.head_eq_of_cons_eq ec
    obtain rfl := List.head_eq_of_cons_eq ed
    exact ⟨⟨a, b, c, e⟩, rfl⟩
end Go.Proofs.Ytckfklpgnneodaa
namespace Go.Proofs.Ytckfklpgnneodaa
open Go.RowKit
def Ok (l : List Dw) : Prop := ∀ x ∈ l, x.ok
theorem Ok.set {l : List Dw} (h : Ok l) (j : Nat) {x : Dw} (hx : x.ok) : Ok (l.set j x) := fun y hy => by
  rcases List.mem_or_eq_of_mem_set hy with hy | rfl
  · exact h y hy
  · exact hx
theorem Ok.eb {l : List Dw} (h : Ok l) : Eb l := fun x hx => by
  obtain ⟨_, h0, h1, _⟩ := h x hx
  omega
attribute [local irreducible] World.cell?
end Go.Proofs.Ytckfklpgnneodaa
namespace Go.Proofs.Ytckfklpgnneodaa
open Go.ChangeShapes Go.WideShapes Go.ChangeAt Go.RowKit Go.Lib Go.Joins
set_option maxRecDepth 100000 in
set_option maxHeartbeats 400000 in
theorem open_gs1 {H : Type} {enc : TypeId × Value → H} {w : World} {spare : Nat → Bool} {held : Bool} {fuel : Nat} {v : Value} {y : DataW H × List MemPlace}
    (hf : DataW.trod enc Try.prog w 0 spare held fuel 32 [v] = some y) :
    ∃ a0 cap l, v = .slice a0 (List.length l) cap ∧ GsIn w w.heap.size a0 l := by
  rcases Deep.open_slice Try.underlying32 hf with ⟨hcs, _⟩ | ⟨x, len, cap, m, n, D, Pl, hcs, _, hl, hm, hmm, _, hx⟩
  · obtain rfl := List.head_eq_of_cons_eq hcs
    exact ⟨none, 0, [], rfl, Nat.zero_le _, fun h => absurd h (by simp)⟩
  · obtain rfl := List.head_eq_of_cons_eq hcs
    have hlm : len ≤ m := by rw [hmm]; split <;> omega
    haveI : Inhabited Gt := ⟨⟨0, 0, 0, 0⟩⟩
    obtain ⟨X, hX⟩ := Deep.choose_lt (α := Gt) (p := fun i y => ∀ k, k < 4 → w.cell? ((x.add (i * 4)).add k) = (gtE.fl y)[k]?) (n := len) (fun i hi => by
      obtain ⟨cs', h1, h2⟩ := hx i (by omega)
      rw [cellsLg] at h1
      obtain ⟨_, _, h3⟩ := World.cells?_some h1
      obtain ⟨y, rfl⟩ := gt_cells h2
      exact ⟨y, h3⟩)
    have hlen : ((List.range len).map X).length = len := by simp
    refine ⟨some x, cap, (List.range len).map X, by rw [hlen], by rw [hlen]; omega, fun h0 => ?_⟩
    rw [hlen] at h0
    obtain ⟨b, off, spot⟩ := x
    have hc0 := hX 0 h0 0 (by omega)
    have e0 : ((⟨b, off, spot⟩ : Addr).add (0 * 4)).add 0 = ⟨b, off, spot⟩ := by simp [Addr.add]
    rw [e0] at hc0
    have hspot : spot = none := World.cell?_spot (v := .int .i64 (X 0).k) hc0
    subst hspot
    refine ⟨b, off, rfl, ?_, fun j y hy => ?_⟩
    · exact World.block_lt_of_cell? _ _ (show w.cell? ⟨b, off, none⟩ = some (.int .i64 (X 0).k) from hc0)
    · rw [List.getElem?_map] at hy
      have hj : j < len := by
        rcases Nat.lt_or_ge j len with h' | h'
        · exact h'
        · rw [List.getElem?_eq_none (by simpa using h')] at hy; cases hy
      rw [List.getElem?_range hj] at hy
      injection hy with hy
      have hY := hX j hj
      rw [hy] at hY
      have ha : ∀ k, (((⟨b, off, none⟩ : Addr).add (j * 4)).add k) = ⟨b, off + j * 4 + k, none⟩ := by
        intro k
        unfold Addr.add
        by_cases h1 : j * 4 = 0
        · by_cases h2 : k = 0
          · simp [h1, h2]
          · simp [h1, h2]
        · by_cases h2 : k = 0
          · simp [h1, h2]
          · simp [h1, h2]
      have h5 := fun k hk => (congrArg w.cell? (ha k)).symm.trans (hY k hk)
      exact ⟨h5 0 (by omega), h5 1 (by omega), h5 2 (by omega), h5 3 (by omega)⟩
end Go.Proofs.Ytckfklpgnneodaa
