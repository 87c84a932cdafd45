/- B15: several of our texts in one: GtS GtD GtE GtR SnG SnH MtQ MtC MtD AdN AmM MtW MtA MtM MtI MtU. -/
import Derived.Test.YtbnkanlebjpkfaaDoorGtB
import Derived.Deep.AppendLies
import Derived.Deep.RegionLaw
import Derived.Test.YtbnkanlebjpkfaaDoorB07
import Derived.Test.YtbnkanlebjpkfaaDoorB14
import Derived.Test.YtbnkanlebjpkfaaDoorB04
import Derived.Test.YtbnkanlebjpkfaaDoorB12
namespace Go.Proofs.YtbnkanlebjpkfaaDoor
open Go.RowKit
/-- InverseGate, of kinds and of gates. -/
def invK (k : Int) : Int := if k = 5 then 6 else if k = 6 then 5 else if k = 7 then 8 else if k = 8 then 7 else k
attribute [local irreducible] World.cell?
set_option maxRecDepth 100000 in
set_option maxHeartbeats 800000 in
theorem toG (x : Gt) (w : World) :
    Calls Tryd.prog 9 #[(.agg #[.int .i64 x.k, .int .i64 x.a, .int .i64 x.b, .int .i64 x.c])] w fun e w' => e = .returned (.agg #[.int .i64 x.k, .int .i64 x.a, .int .i64 x.b, .int .i64 x.c]) ∧ Below w.heap.size w w' := by
  go_enter Tryd.func9, Tryd.ntmps9
  go_wp2_with fail
  refine bodyPost_ret (v := (.agg #[.int .i64 x.k, .int .i64 x.a, .int .i64 x.b, .int .i64 x.c])) (by simp [results, Tryd.results9, go_sem]) rfl ⟨rfl, ?_⟩
  go_grown
set_option maxRecDepth 100000 in
set_option maxHeartbeats 800000 in
theorem eqG (x : Gt) (w : World) :
    Calls Tryd.prog 13 #[(.agg #[.int .i64 x.k, .int .i64 x.a, .int .i64 x.b, .int .i64 x.c]), (.agg #[.int .i64 x.k, .int .i64 x.a, .int .i64 x.b, .int .i64 x.c])] w fun e w' => e = .returned (.bool true) ∧ Below w.heap.size w w' := by
  go_enter Tryd.func13, Tryd.ntmps13
  go_wp2_with fail
  go_returns
  exact ⟨rfl, by go_grown⟩
/-- GateName. -/
def nmL : List ByteArray := [⟨#[]⟩, ⟨#[120]⟩, ⟨#[121]⟩, ⟨#[122]⟩, ⟨#[104]⟩, ⟨#[115]⟩, ⟨#[115, 100]⟩, ⟨#[116]⟩, ⟨#[116, 100]⟩, ⟨#[99, 120]⟩, ⟨#[99, 122]⟩, ⟨#[115, 119, 97, 112]⟩, ⟨#[99, 99, 120]⟩]
def nmB (k : Int) : ByteArray := if 1 ≤ k ∧ k ≤ 12 then nmL.getD k.toNat ⟨#[]⟩ else ⟨#[]⟩
set_option maxRecDepth 100000 in
set_option maxHeartbeats 1600000 in
theorem sname (k : Int) (w : World) :
    Calls Tryd.prog 26 #[.int .i64 k] w fun e w' => e = .returned (.string (nmB k)) ∧ Below w.heap.size w w' := by
  by_cases h : 1 ≤ k ∧ k ≤ 12
  · obtain ⟨m, rfl⟩ : ∃ m : Nat, k = m := ⟨k.toNat, by omega⟩
    have H1 := Lib.hid (fun w => lin_any (m : Int) 1 12 true w (decide_eq_true h))
    have hm : m ≤ 12 := by omega
    have hc : (w.alloc (.cells #[.string ⟨#[]⟩, .string ⟨#[120]⟩, .string ⟨#[121]⟩, .string ⟨#[122]⟩, .string ⟨#[104]⟩, .string ⟨#[115]⟩, .string ⟨#[115, 100]⟩, .string ⟨#[116]⟩, .string ⟨#[116, 100]⟩, .string ⟨#[99, 120]⟩, .string ⟨#[99, 122]⟩, .string ⟨#[115, 119, 97, 112]⟩, .string ⟨#[99, 99, 120]⟩] 9)).cell? ⟨w.heap.size, m, none⟩ = some (.string (nmB (m : Int))) := by
      have hb := heap_alloc_new w (.cells #[.string ⟨#[]⟩, .string ⟨#[120]⟩, .string ⟨#[121]⟩, .string ⟨#[122]⟩, .string ⟨#[104]⟩, .string ⟨#[115]⟩, .string ⟨#[115, 100]⟩, .string ⟨#[116]⟩, .string ⟨#[116, 100]⟩, .string ⟨#[99, 120]⟩, .string ⟨#[99, 122]⟩, .string ⟨#[115, 119, 97, 112]⟩, .string ⟨#[99, 99, 120]⟩] 9)
      refine cell_at hb m _ ?_
      have hm1 : 1 ≤ m := by omega
      rcases (show m = 1 ∨ m = 2 ∨ m = 3 ∨ m = 4 ∨ m = 5 ∨ m = 6 ∨ m = 7 ∨ m = 8 ∨ m = 9 ∨ m = 10 ∨ m = 11 ∨ m = 12 by omega) with rfl | rfl | rfl | rfl | rfl | rfl | rfl | rfl | rfl | rfl | rfl | rfl <;> rfl
    generalize nmB (m : Int) = s at *
    clear h
    go_enter Tryd.func26, Tryd.ntmps26
    go_wp2_with fail
    refine (H1.out _).mono ?_
    rintro e w1 ⟨rfl, rfl⟩
    go_wp2_with fail
    go_ret
    exact ⟨rfl, by go_grown⟩
  · have H1 := Lib.hid (fun w => lin_any k 1 12 false w (decide_eq_false h))
    rw [show nmB k = ⟨#[]⟩ from if_neg h]
    clear h
    go_enter Tryd.func26, Tryd.ntmps26
    go_wp2_with fail
    refine (H1.out _).mono ?_
    rintro e w1 ⟨rfl, rfl⟩
    go_wp2_with fail
    go_ret
    exact ⟨rfl, Below.refl _ _⟩
end Go.Proofs.YtbnkanlebjpkfaaDoor
namespace Go.Proofs.YtbnkanlebjpkfaaDoor
open Go.RowKit
attribute [local irreducible] World.cell?
end Go.Proofs.YtbnkanlebjpkfaaDoor
namespace Go.Proofs.YtbnkanlebjpkfaaDoor
open Go.RowKit
attribute [local irreducible] World.cell?
end Go.Proofs.YtbnkanlebjpkfaaDoor
namespace Go.Proofs.YtbnkanlebjpkfaaDoor
open Go.RowKit
theorem infoGt : (Tryd.prog.info? 25).map (fun i => (i.zero, i.size, i.bytes)) = some (some (.agg #[.int .i64 0, .int .i64 0, .int .i64 0, .int .i64 0]), 4, 32) := by kernel_rfl
theorem blk_cells2 {g : Nat} {W : World} {t : TypeId} {z0 z1 : Value} (h : W.heap[g]? = some (.cells #[z0, z1] t (0, 0))) : W.cell? ⟨g, 0, none⟩ = some z0 ∧ W.cell? ⟨g, 1, none⟩ = some z1 := ⟨cell_at h 0 _ rfl, cell_at h 1 _ rfl⟩
theorem grown_blk {w w' : World} {row : Option Nat} {b : Nat} {o : Obj} (hg : w.grownBy w' row) (h : w.heap[b]? = some o) (hne : some b ≠ row) : w'.heap[b]? = some o := (hg.block b (lt_of_block h) hne).trans h
theorem row_set1 {w : World} {base : Nat} {e : TypeId} {size : Nat} {v : Value} {n g off : Nat} {xs : List Value} {u : Value} (h : w.ownsRow base e size v n xs) (hn : ∀ k, v.ownBlock = some k → k ≠ g) : (w.setCell ⟨g, off, none⟩ u).ownsRow base e size v n xs := by
  obtain ⟨h1, h2⟩ := h
  refine ⟨h1, ?_⟩
  rcases h2 with h2 | ⟨g', cap, cur, a, b, c, d⟩
  · exact .inl h2
  · exact .inr ⟨g', cap, cur, a, b, set1_blk (hn g' (by rw [a]; rfl)) c, d⟩
theorem sl_set1 {α : Type} {E : Enc α} {w : World} {B g off : Nat} {v : Value} {l : List α} {u : Value} (h : E.Sl w B v l) (hg : g < B) : E.Sl (w.setCell ⟨g, off, none⟩ u) B v l :=
  h.block fun k hk _ => Below.heap_setCell _ _ _ _ (by show k ≠ g; omega)
attribute [local irreducible] World.cell?
end Go.Proofs.YtbnkanlebjpkfaaDoor
namespace Go.Proofs.YtbnkanlebjpkfaaDoor
open Go.RowKit
attribute [local irreducible] World.cell?
end Go.Proofs.YtbnkanlebjpkfaaDoor
namespace Go.Proofs.YtbnkanlebjpkfaaDoor
open Go.RowKit
attribute [local irreducible] World.cell?
end Go.Proofs.YtbnkanlebjpkfaaDoor
namespace Go.Proofs.YtbnkanlebjpkfaaDoor
open Go.RowKit
attribute [local irreducible] World.cell?
end Go.Proofs.YtbnkanlebjpkfaaDoor
namespace Go.Proofs.YtbnkanlebjpkfaaDoor
open Go.RowKit
attribute [local irreducible] World.cell?
end Go.Proofs.YtbnkanlebjpkfaaDoor
namespace Go.Proofs.YtbnkanlebjpkfaaDoor
open Go.RowKit
attribute [local irreducible] World.cell?
end Go.Proofs.YtbnkanlebjpkfaaDoor
namespace Go.Proofs.YtbnkanlebjpkfaaDoor
end Go.Proofs.YtbnkanlebjpkfaaDoor
namespace Go.Proofs.YtbnkanlebjpkfaaDoor
end Go.Proofs.YtbnkanlebjpkfaaDoor
namespace Go.Proofs.YtbnkanlebjpkfaaDoor
open Go.RowKit
attribute [local irreducible] World.cell?
end Go.Proofs.YtbnkanlebjpkfaaDoor
namespace Go.Proofs.YtbnkanlebjpkfaaDoor
open Go.RowKit
attribute [local irreducible] World.cell?
end Go.Proofs.YtbnkanlebjpkfaaDoor
namespace Go.Proofs.YtbnkanlebjpkfaaDoor
open Go.RowKit
attribute [local irreducible] World.cell?
end Go.Proofs.YtbnkanlebjpkfaaDoor
namespace Go.Proofs.YtbnkanlebjpkfaaDoor
open Go.RowKit
attribute [local irreducible] World.cell?
end Go.Proofs.YtbnkanlebjpkfaaDoor
namespace Go.Proofs.YtbnkanlebjpkfaaDoor
open Go.RowKit
attribute [local irreducible] World.cell?
end Go.Proofs.YtbnkanlebjpkfaaDoor
