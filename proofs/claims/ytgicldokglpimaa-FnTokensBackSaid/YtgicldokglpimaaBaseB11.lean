/- BaseB11: several of our texts in one: GtS GtC. -/
import Derived.Test.YtgicldokglpimaaGtB
import Derived.Test.YtgicldokglpimaaBaseB10
import Derived.Test.YtgicldokglpimaaBaseB18
namespace Go.Proofs.Ytgicldokglpimaa
open Go.RowKit
/-- InverseGate, of kinds and of gates. -/
def invK (k : Int) : Int := if k = 5 then 6 else if k = 6 then 5 else if k = 7 then 8 else if k = 8 then 7 else k
def invG (g : Gt) : Gt := ⟨invK g.k, g.a, g.b, g.c⟩
theorem invK_invK (k : Int) : invK (invK k) = k := by
  unfold invK
  repeat' split
  all_goals omega
theorem invG_invG (g : Gt) : invG (invG g) = g := by unfold invG; simp only [invK_invK]
theorem ar_invK (k : Int) : ar (invK k) = ar k := by
  by_cases h : k = 5 ∨ k = 6 ∨ k = 7 ∨ k = 8
  · rcases h with rfl | rfl | rfl | rfl <;> rfl
  · rw [show invK k = k from by unfold invK; rw [if_neg (by omega), if_neg (by omega), if_neg (by omega), if_neg (by omega)]]
/-- IsClifford. -/
def clB (g : Gt) : Bool := decide (0 < ar g.k) && (!decide (g.k = 7) && !decide (g.k = 8) && !decide (g.k = 12))
attribute [local irreducible] World.cell?
/-- GateName. -/
def nmL : List ByteArray := [⟨#[]⟩, ⟨#[120]⟩, ⟨#[121]⟩, ⟨#[122]⟩, ⟨#[104]⟩, ⟨#[115]⟩, ⟨#[115, 100]⟩, ⟨#[116]⟩, ⟨#[116, 100]⟩, ⟨#[99, 120]⟩, ⟨#[99, 122]⟩, ⟨#[115, 119, 97, 112]⟩, ⟨#[99, 99, 120]⟩]
def nmB (k : Int) : ByteArray := if 1 ≤ k ∧ k ≤ 12 then nmL.getD k.toNat ⟨#[]⟩ else ⟨#[]⟩
end Go.Proofs.Ytgicldokglpimaa
namespace Go.Proofs.Ytgicldokglpimaa
open Go.RowKit
/-- IsValidCircuit. -/
def ciB (n : Int) (l : List Gt) : Bool := l.all (fun g => gtB g n) && (decide (1 ≤ n ∧ n ≤ 4) && decide (l.length ≤ 60))
/-- A circuit's box and one of its gates. -/
def GS (w : World) (C g j : Nat) (n : Int) (v : Value) (x : Gt) (w' : World) : Prop :=
  w'.cell? ⟨C, 0, none⟩ = some (.int .i64 n) ∧ w'.cell? ⟨C, 1, none⟩ = some v ∧ w'.cell? ⟨g, j * 4, none⟩ = some (.int .i64 x.k) ∧ w'.cell? ⟨g, j * 4 + 1, none⟩ = some (.int .i64 x.a) ∧ w'.cell? ⟨g, j * 4 + 2, none⟩ = some (.int .i64 x.b) ∧ w'.cell? ⟨g, j * 4 + 3, none⟩ = some (.int .i64 x.c) ∧ C < w'.heap.size ∧ g < w'.heap.size ∧ Below w.heap.size w w'
theorem GS.drew {w w' : World} {C g j : Nat} {n : Int} {v : Value} {x : Gt} (h : GS w C g j n v x w') : GS w C g j n v x w'.drew :=
  let ⟨a0, a1, b0, b1, b2, b3, z, z', l⟩ := h; ⟨a0, a1, b0, b1, b2, b3, z, z', l.drew⟩
theorem GS.below {w w1 w2 : World} {C g j : Nat} {n : Int} {v : Value} {x : Gt} (h : GS w C g j n v x w1) (hb : Below w1.heap.size w1 w2) : GS w C g j n v x w2 :=
  let ⟨a0, a1, b0, b1, b2, b3, z, z', l⟩ := h
  ⟨cell_below a0 hb z, cell_below a1 hb z, cell_below b0 hb z', cell_below b1 hb z', cell_below b2 hb z', cell_below b3 hb z', Nat.lt_of_lt_of_le z hb.size, Nat.lt_of_lt_of_le z' hb.size, below_up l hb l.size⟩
end Go.Proofs.Ytgicldokglpimaa
