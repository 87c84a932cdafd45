/- The cursor of a draw: a block of its own over the code's bytes. -/
import Derived.Test.YtgknokaibgckkaaDoorHeap
import Derived.WalkKit
import Derived.WalkSpells
import Derived.WalkLawsBesides
import Derived.Lib.Hide
import Derived.OneCell
import Derived.Deep.QuietTactic
import Derived.BigQuiet
import Derived.OpenShut
namespace Go.Proofs.YtgknokaibgckkaaDoor
open Go.RowKit
/-- The code's bytes are there, below block B. -/
def CodeAt (w : World) (B : Nat) (a0 : Option Addr) (len : Nat) : Prop :=
  len ≤ 140737488351232 ∧ (0 < len → ∃ b off, a0 = some ⟨b, off, none⟩ ∧ b < B ∧ ∀ j, j < len → ∃ v : Int, 0 ≤ v ∧ v ≤ 255 ∧ w.cell? ⟨b, off + j, none⟩ = some (.int .u8 v))
theorem CodeAt.below {w w' : World} {B : Nat} {a0 : Option Addr} {len : Nat} (h : CodeAt w B a0 len) (hb : Below B w w') : CodeAt w' B a0 len :=
  ⟨h.1, fun h0 => by
    obtain ⟨b, off, e, hlt, hc⟩ := h.2 h0
    exact ⟨b, off, e, hlt, fun j hj => by obtain ⟨v, v0, v1, hv⟩ := hc j hj; exact ⟨v, v0, v1, by rw [hb.cell (by exact hlt)]; exact hv⟩⟩⟩
theorem CodeAt.mono {w : World} {B C : Nat} {a0 : Option Addr} {len : Nat} (h : CodeAt w B a0 len) (hB : B ≤ C) : CodeAt w C a0 len :=
  ⟨h.1, fun h0 => by obtain ⟨b, off, e, hlt, hc⟩ := h.2 h0; exact ⟨b, off, e, Nat.lt_of_lt_of_le hlt hB, hc⟩⟩
theorem CodeAt.own {w w' : World} {B : Nat} {a0 : Option Addr} {len : Nat} (h : CodeAt w B a0 len) (hb : Own B w w') : CodeAt w' B a0 len :=
  ⟨h.1, fun h0 => by
    obtain ⟨b, off, e, hlt, hc⟩ := h.2 h0
    refine ⟨b, off, e, hlt, fun j hj => ?_⟩
    obtain ⟨v, v0, v1, hv⟩ := hc j hj
    refine ⟨v, v0, v1, ?_⟩
    have hs := World.block_lt_of_cell? _ _ hv
    rw [World.cell?_of_block (w := w) (hb.block b hs (by intro e; injection e with e; omega))]
    exact hv⟩
theorem code_of {w : World} {x : Addr} {len : Nat} {zs : List Int} (hs : len ≤ 1048576) (hz : len ≤ zs.length) (hc : ∀ i, i < zs.length → w.cell? (x.add i) = some (.int .u8 (zs.getD i 0))) (hw : ∀ n ∈ zs, (Lit.int .u8 n).wf = true) : CodeAt w w.heap.size (some x) len := by
  refine ⟨by omega, fun h0 => ?_⟩
  obtain ⟨b, off, rfl, hcell⟩ := ints_at hc (by omega)
  refine ⟨b, off, rfl, World.block_lt_of_cell? _ _ (hcell 0 (by omega)), fun j hj => ⟨zs.getD j 0, ?_, ?_, hcell j (by omega)⟩⟩
  all_goals
    have hb := bounds_u8 (hw (zs.getD j 0) (by rw [List.getD_eq_getElem?_getD, List.getElem?_eq_getElem (by omega)]; exact List.getElem_mem _))
    omega
theorem and_bd (v : Int) (c : Nat) (hc : c < 4611686018427387904) : 0 ≤ bits .and .i64 v (c : Int) ∧ bits .and .i64 v (c : Int) ≤ c := by
  have e : bits .and .i64 v (c : Int) = IntKind.i64.wrap (((BitVec.ofInt 64 v &&& BitVec.ofInt 64 (c : Int)).toNat : Nat) : Int) := rfl
  have h2 : (BitVec.ofInt 64 (c : Int)).toNat = c := by
    rw [BitVec.ofInt_natCast, BitVec.toNat_ofNat]; exact Nat.mod_eq_of_lt (by omega)
  rw [e, BitVec.toNat_and, h2, IntKind.wrap_i64]
  have := Nat.and_le_right (n := (BitVec.ofInt 64 v).toNat) (m := c)
  omega
theorem and_255 (v : Int) : 0 ≤ bits .and .i64 v 255 ∧ bits .and .i64 v 255 ≤ 255 := and_bd v 255 (by omega)
end Go.Proofs.YtgknokaibgckkaaDoor
