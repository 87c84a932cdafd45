/- BaseB02: several of our texts in one: ZwV Cur Draw1. -/
import Derived.Test.YtgicldokglpimaaBaseB01
import Derived.Test.YtgicldokglpimaaRows
import Derived.WalkKit
import Derived.WalkSpells
import Derived.WalkLawsBesides
import Derived.Lib.Hide
import Derived.OneCell
import Derived.WalkSmall
import Derived.Handy
import Derived.Deep.QuietTactic
import Derived.BigQuiet
import Derived.OpenShut
namespace Go.Proofs.Ytgicldokglpimaa
open Go.RowKit
attribute [local irreducible] World.cell?
theorem bcell {W w1 : World} (hb : Below W.heap.size W w1) : (∀ b o, b < W.heap.size → w1.cell? ⟨b, o, none⟩ = W.cell? ⟨b, o, none⟩) ∧ (∀ b o, b < W.heap.size → w1.frozen? ⟨b, o, none⟩ = W.frozen? ⟨b, o, none⟩) :=
  ⟨fun b o h => hb.cell (p := ⟨b, o, none⟩) h, fun b o h => hb.frozen (p := ⟨b, o, none⟩) h⟩
end Go.Proofs.Ytgicldokglpimaa
namespace Go.Proofs.Ytgicldokglpimaa
open Go.RowKit
/-- The code's bytes are there, below block B. -/
def CodeAt (w : World) (B : Nat) (a0 : Option Addr) (len : Nat) : Prop :=
  len ≤ 140737488351232 ∧ (0 < len → ∃ b off, a0 = some ⟨b, off, none⟩ ∧ b < B ∧ ∀ j, j < len → ∃ v : Int, 0 ≤ v ∧ v ≤ 255 ∧ w.cell? ⟨b, off + j, none⟩ = some (.int .u8 v))
theorem CodeAt.below {w w' : World} {B : Nat} {a0 : Option Addr} {len : Nat} (h : CodeAt w B a0 len) (hb : Below B w w') : CodeAt w' B a0 len :=
  ⟨h.1, fun h0 => by
    obtain ⟨b, off, e, hlt, hc⟩ := h.2 h0
    exact ⟨b, off, e, hlt, fun j hj => by obtain ⟨v, v0, v1, hv⟩ := hc j hj; exact ⟨v, v0, v1, by rw [hb.cell (by exact hlt)]; exact hv⟩⟩⟩
theorem CodeAt.mono {w : World} {B C : Nat} {a0 : Option Addr} {len : Nat} (h : CodeAt w B a0 len) (hB : B ≤ C) : CodeAt w C a0 len :=
  ⟨h.1, fun h0 => by obtain ⟨b, off, e, hlt, hc⟩ := h.2 h0; exact ⟨b, off, e, Nat.lt_of_lt_of_le hlt hB, hc⟩⟩
theorem CodeAt.own {w w' : World} {B : Nat} {a0 : Option Addr} {len : Nat} (h : CodeAt w B a0 len) (hb : Own B w w') : CodeAt w' B a0 len :=
  ⟨h.1, fun h0 => by
    obtain ⟨b, off, e, hlt, hc⟩ := h.2 h0
    refine ⟨b, off, e, hlt, fun j hj => ?_⟩
    obtain ⟨v, v0, v1, hv⟩ := hc j hj
    refine ⟨v, v0, v1, ?_⟩
    have hs := World.block_lt_of_cell? _ _ hv
    rw [World.cell?_of_block (w := w) (hb.block b hs (by intro e; injection e with e; omega))]
    exact hv⟩
theorem code_of {w : World} {x : Addr} {len : Nat} {zs : List Int} (hs : len ≤ 1048576) (hz : len ≤ zs.length) (hc : ∀ i, i < zs.length → w.cell? (x.add i) = some (.int .u8 (zs.getD i 0))) (hw : ∀ n ∈ zs, (Lit.int .u8 n).wf = true) : CodeAt w w.heap.size (some x) len := by
  refine ⟨by omega, fun h0 => ?_⟩
  obtain ⟨b, off, rfl, hcell⟩ := ints_at hc (by omega)
  refine ⟨b, off, rfl, World.block_lt_of_cell? _ _ (hcell 0 (by omega)), fun j hj => ⟨zs.getD j 0, ?_, ?_, hcell j (by omega)⟩⟩
  all_goals
    have hb := bounds_u8 (hw (zs.getD j 0) (by rw [List.getD_eq_getElem?_getD, List.getElem?_eq_getElem (by omega)]; exact List.getElem_mem _))
    omega
/-- The cursor lies in block B. -/
def CurAt (w : World) (B : Nat) : Prop := ∃ (a0 : Option Addr) (len cap i : Nat) (h : Int),
  w.heap[B]? = some (.cells #[.slice a0 len cap, .int .i64 i, .int .i64 h] 68 (0, 0)) ∧ i ≤ len ∧ CodeAt w B a0 len
theorem CurAt.own {w w' : World} {B : Nat} (h : CurAt w B) {C : Nat} (hb : Own C w w') (hC : B < C) : CurAt w' B := by
  obtain ⟨a0, len, cap, i, x, h1, h2, h3⟩ := h
  refine ⟨a0, len, cap, i, x, ?_, h2, h3.below ⟨hb.os, hb.tape, hb.output, hb.size, fun k hk => hb.block k (by have := lt_of_block h1; omega) (by intro e; injection e with e; omega)⟩⟩
  rw [hb.block B (lt_of_block h1) (by intro e; injection e with e; omega)]; exact h1
theorem CurAt.below {w w' : World} {B C : Nat} (h : CurAt w B) (hb : Below C w w') (hC : B < C) : CurAt w' B := by
  obtain ⟨a0, len, cap, i, x, h1, h2, h3⟩ := h
  exact ⟨a0, len, cap, i, x, by rw [hb.block B hC]; exact h1, h2, h3.below (hb.mono (Nat.le_of_lt hC))⟩
theorem and_bd (v : Int) (c : Nat) (hc : c < 4611686018427387904) : 0 ≤ bits .and .i64 v (c : Int) ∧ bits .and .i64 v (c : Int) ≤ c := by
  have e : bits .and .i64 v (c : Int) = IntKind.i64.wrap (((BitVec.ofInt 64 v &&& BitVec.ofInt 64 (c : Int)).toNat : Nat) : Int) := rfl
  have h2 : (BitVec.ofInt 64 (c : Int)).toNat = c := by
    rw [BitVec.ofInt_natCast, BitVec.toNat_ofNat]; exact Nat.mod_eq_of_lt (by omega)
  rw [e, BitVec.toNat_and, h2, IntKind.wrap_i64]
  have := Nat.and_le_right (n := (BitVec.ofInt 64 v).toNat) (m := c)
  omega
theorem and_255 (v : Int) : 0 ≤ bits .and .i64 v 255 ∧ bits .and .i64 v 255 ≤ 255 := and_bd v 255 (by omega)
set_option maxRecDepth 100000 in
set_option maxHeartbeats 400000 in
theorem byte_any (B : Nat) (w : World) (hcur : CurAt w B) :
    Calls Try.prog 47 #[.pointer (some ⟨B, 0, none⟩)] w fun e w' => (∃ x : Int, 0 ≤ x ∧ x ≤ 255 ∧ e = .returned (.int .i64 x)) ∧ CurAt w' B ∧ Own B w w' := by
  obtain ⟨a0, len, cap, i, h, hblk, hil, hcode⟩ := hcur
  have c0 := cell_at hblk 0 _ rfl
  have c1 := cell_at hblk 1 _ rfl
  have c2 := cell_at hblk 2 _ rfl
  have f0 := fun o => free_at hblk o
  obtain ⟨h1, hh1⟩ : ∃ h1, h1 = wrap64 (wrap64 (h * 6364136223846793005) + 1442695040888963407) := ⟨_, rfl⟩
  have hblk1 := heap_set hblk 2 (.int .i64 h1)
  simp at hblk1
  have hown := own_set (own_refl B w) 2 (.int .i64 h1)
  have hcode1 := hcode.own hown
  go_enter Try.func47, Try.ntmps47
  go_wp2_with fail
  rw [← hh1]
  clear hh1
  generalize w.setCell ⟨B, 2, none⟩ (.int .i64 h1) = w1 at *
  have d0 := cell_at hblk1 0 _ rfl
  have d1 := cell_at hblk1 1 _ rfl
  have d2 := cell_at hblk1 2 _ rfl
  have g0 := fun o => free_at hblk1 o
  clear c0 c1 c2 f0 hblk hcode
  by_cases hlt : i < len
  · obtain ⟨b, off, rfl, hbB, hcells⟩ := hcode1.2 (by omega)
    obtain ⟨v, v0, v1, hv⟩ := hcells i hlt
    have hlen := hcode1.1
    have Hc := Lib.hid hcode1
    clear hcells hcode1
    have hblk2 := heap_set hblk1 1 (.int .i64 (i + 1 : Nat))
    simp at hblk2
    go_quiet (fail)
    obtain ⟨x0, x1⟩ := and_255 (bits .xor .i64 (h1 / 8589934592) (h1 / 35184372088832))
    generalize bits .and .i64 (bits .xor .i64 (h1 / 8589934592) (h1 / 35184372088832)) 255 = x at *
    go_wp2_with fail
    go_quiet (fail)
    go_wp2_with fail
    go_quiet (fail)
    obtain ⟨y0, y1⟩ := and_255 (x + v)
    generalize bits .and .i64 (x + v) 255 = y at *
    go_wp2_with fail
    go_ret
    have ho := fun n => own_set (own_drew hown n) 1 (.int .i64 (i + 1 : Nat))
    have hq : ∀ n, ((w1.drewN n).setCell ⟨B, 1, none⟩ (.int .i64 (i + 1 : Nat))).heap[B]? = some (.cells #[.slice (some ⟨b, off, none⟩) len cap, .int .i64 (i + 1 : Nat), .int .i64 h1] 68 (0, 0)) := fun n => by simpa using heap_set (w := w1.drewN n) hblk1 1 (.int .i64 (i + 1 : Nat))
    exact ⟨⟨y, y0, y1, rfl⟩, ⟨some ⟨b, off, none⟩, len, cap, i + 1, h1, hq _, by omega, Hc.out.own (own_set (own_drew (own_refl B w1) _) 1 _)⟩, ho _⟩
  · go_quiet (fail)
    obtain ⟨x0, x1⟩ := and_255 (bits .xor .i64 (h1 / 8589934592) (h1 / 35184372088832))
    generalize bits .and .i64 (bits .xor .i64 (h1 / 8589934592) (h1 / 35184372088832)) 255 = x at *
    go_wp2_with fail
    go_quiet (fail)
    go_wp2_with fail
    go_ret
    exact ⟨⟨x, x0, x1, rfl⟩, ⟨a0, len, cap, i, h1, hblk1, hil, hcode1⟩, own_drew (own_drew hown _) _⟩
set_option maxRecDepth 100000 in
set_option maxHeartbeats 400000 in
theorem below_small (B : Nat) (n : Int) (w : World) (hcur : CurAt w B) (h1 : 1 ≤ n) (h2 : n ≤ 256) :
    Calls Try.prog 36 #[.pointer (some ⟨B, 0, none⟩), .int .i64 n] w fun e w' => (∃ x : Int, 0 ≤ x ∧ x < n ∧ e = .returned (.int .i64 x)) ∧ CurAt w' B ∧ Own B w w' := by
  have Hc := Lib.hid hcur
  clear hcur
  go_enter Try.func36, Try.ntmps36
  go_wp2_with fail
  refine (byte_any B _ Hc.out).mono ?_
  rintro e w1 ⟨⟨x, x0, x1, rfl⟩, hc1, ho1⟩
  have Hc1 := Lib.hid hc1
  have Ho1 := Lib.hid ho1
  clear hc1 ho1
  go_wp2_with fail
  go_ret
  exact ⟨⟨x % n, Int.emod_nonneg _ (by omega), Int.emod_lt_of_pos _ (by omega), rfl⟩, Hc1.out, Ho1.out⟩
set_option maxRecDepth 100000 in
set_option maxHeartbeats 400000 in
theorem below_big (B : Nat) (n : Int) (w : World) (hcur : CurAt w B) (h1 : 256 < n) (h2 : n ≤ 9223372036854775807) :
    Calls Try.prog 36 #[.pointer (some ⟨B, 0, none⟩), .int .i64 n] w fun e w' => (∃ x : Int, 0 ≤ x ∧ x < n ∧ e = .returned (.int .i64 x)) ∧ CurAt w' B ∧ Own B w w' := by
  have Hc := Lib.hid hcur
  clear hcur
  go_enter Try.func36, Try.ntmps36
  go_wp2_with fail
  refine (byte_any B _ Hc.out).mono ?_
  rintro e w1 ⟨⟨x, x0, x1, rfl⟩, hc1, ho1⟩
  have Hc1 := Lib.hid hc1
  have Ho1 := Lib.hid ho1
  clear hc1 ho1
  go_wp2_with fail
  refine (byte_any B _ Hc1.out).mono ?_
  rintro e w2 ⟨⟨y, y0, y1, rfl⟩, hc2, ho2⟩
  have Hc2 := Lib.hid hc2
  have Ho2 := Lib.hid ho2
  clear hc2 ho2
  go_wp2_with fail
  refine (byte_any B _ Hc2.out).mono ?_
  rintro e w3 ⟨⟨z, z0, z1, rfl⟩, hc3, ho3⟩
  have Hc3 := Lib.hid hc3
  have Ho3 := Lib.hid ho3
  clear hc3 ho3
  go_wp2_with fail
  refine (byte_any B _ Hc3.out).mono ?_
  rintro e w4 ⟨⟨u, u0, u1, rfl⟩, hc4, ho4⟩
  have Hc4 := Lib.hid hc4
  have Ho4 := Lib.hid ho4
  clear hc4 ho4
  go_wp2_with fail
  go_ret
  exact ⟨⟨_, Int.emod_nonneg _ (by omega), Int.emod_lt_of_pos _ (by omega), rfl⟩, Hc4.out, own_trans (own_trans (own_trans Ho1.out Ho2.out) Ho3.out) Ho4.out⟩
/-- spec.l1Below at every n from 1 on. -/
theorem below_any (B : Nat) (n : Int) (w : World) (hcur : CurAt w B) (h1 : 1 ≤ n) (h2 : n ≤ 9223372036854775807) :
    Calls Try.prog 36 #[.pointer (some ⟨B, 0, none⟩), .int .i64 n] w fun e w' => (∃ x : Int, 0 ≤ x ∧ x < n ∧ e = .returned (.int .i64 x)) ∧ CurAt w' B ∧ Own B w w' := by
  by_cases h : n ≤ 256
  · exact below_small B n w hcur h1 h
  · exact below_big B n w hcur (by omega) h2
end Go.Proofs.Ytgicldokglpimaa
namespace Go.Proofs.Ytgicldokglpimaa
open Go.RowKit
set_option maxRecDepth 100000 in
set_option maxHeartbeats 400000 in
theorem new_any (a0 : Option Addr) (len cap : Nat) (w : World) (hcode : CodeAt w w.heap.size a0 len) :
    Calls Try.prog 28 #[.slice a0 len cap] w fun e w' => e = .returned (.pointer (some ⟨w.heap.size, 0, none⟩)) ∧ CurAt w' w.heap.size ∧ Below w.heap.size w w' ∧ w.heap.size < w'.heap.size := by
  have hlen := hcode.1
  have Hc := Lib.hid hcode
  clear hcode
  go_enter Try.func28, Try.ntmps28
  go_wp2_with fail
  go_loop [3, 4] (fun h i => ∃ (k : Nat) (x : Int), k ≤ len ∧ i = .int .i64 k ∧ h = .int .i64 x) (fun _ i => len - (intOf i).toNat)
  case atStart => exact ⟨0, _, Nat.zero_le _, rfl, rfl⟩
  case round =>
    obtain ⟨k, x, hk, rfl, rfl⟩ := hrel
    by_cases hlt : k < len
    · obtain ⟨b, off, rfl, hbB, hcells⟩ := Hc.out.2 (by omega)
      obtain ⟨v, v0, v1, hv⟩ := hcells k hlt
      clear hcells
      by_cases h4 : k < 4000
      · go_wp2_with fail
        go_round
        case rel => exact ⟨k + 1, _, by omega, by go_num, rfl⟩
        case measure => simp [intOf]; omega
      · go_wp2_with fail
        go_ret
        exact ⟨rfl, ⟨_, len, cap, 0, _, by first | rfl | exact heap_alloc_new _ _, Nat.zero_le _, Hc.out.below ((Below.refl _ _).alloc (Nat.le_refl _) _)⟩, (Below.refl _ _).alloc (Nat.le_refl _) _, by simp⟩
    · go_wp2_with fail
      go_ret
      exact ⟨rfl, ⟨_, len, cap, 0, _, by first | rfl | exact heap_alloc_new _ _, Nat.zero_le _, Hc.out.below ((Below.refl _ _).alloc (Nat.le_refl _) _)⟩, (Below.refl _ _).alloc (Nat.le_refl _) _, by simp⟩
set_option maxRecDepth 100000 in
set_option maxHeartbeats 400000 in
theorem once_any (B : Nat) (n : Int) (w : World) (hcur : CurAt w B) (h1 : 1 ≤ n) (h2 : n ≤ 9223372036854775807) :
    Calls Try.prog 30 #[.pointer (some ⟨B, 0, none⟩), .int .i64 n] w fun e w' => (∃ x : Bool, e = .returned (.bool x)) ∧ CurAt w' B ∧ Own B w w' := by
  have Hc := Lib.hid hcur
  clear hcur
  go_enter Try.func30, Try.ntmps30
  go_wp2_with fail
  refine (below_any B n _ Hc.out h1 h2).mono ?_
  rintro e w1 ⟨⟨x, x0, x1, rfl⟩, hc1, ho1⟩
  have Hc1 := Lib.hid hc1
  have Ho1 := Lib.hid ho1
  clear hc1 ho1
  go_wp2_with fail
  go_ret
  exact ⟨⟨_, rfl⟩, Hc1.out, Ho1.out⟩
/-- A list that the call itself made: its cells, one an element. -/
def ListAt (w : World) (b n : Nat) (f : Nat → Value) : Prop := ∀ j, j < n → w.cell? ⟨b, j, none⟩ = some (f j)
theorem ListAt.own {w w' : World} {B b n : Nat} {f : Nat → Value} (h : ListAt w b n f) (ho : Own B w w') (hne : b ≠ B) : ListAt w' b n f := fun j hj =>
  World.grownBy.cell ho (h j hj) (by intro e; injection e with e; exact hne e)
end Go.Proofs.Ytgicldokglpimaa
