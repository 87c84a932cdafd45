/- BaseB02: several of our texts in one: ZwV Cur Draw1. -/
import Derived.Test.YtlmiebeffdcfhaaBaseB01
import Derived.Test.YtlmiebeffdcfhaaRows
import Derived.WalkKit
import Derived.WalkSpells
import Derived.WalkLawsBesides
import Derived.Lib.Hide
import Derived.OneCell
import Derived.WalkSmall
import Derived.Handy
import Derived.Deep.QuietTactic
import Derived.BigQuiet
import Derived.OpenShut
namespace Go.Proofs.Ytlmiebeffdcfhaa
open Go.RowKit
attribute [local irreducible] World.cell?
theorem bcell {W w1 : World} (hb : Below W.heap.size W w1) : (∀ b o, b < W.heap.size → w1.cell? ⟨b, o, none⟩ = W.cell? ⟨b, o, none⟩) ∧ (∀ b o, b < W.heap.size → w1.frozen? ⟨b, o, none⟩ = W.frozen? ⟨b, o, none⟩) :=
  ⟨fun b o h => hb.cell (p := ⟨b, o, none⟩) h, fun b o h => hb.frozen (p := ⟨b, o, none⟩) h⟩
set_option maxRecDepth 100000 in
set_option maxHeartbeats 400000 in
theorem coefs (x : Zw) (w : World) :
    Calls Try.prog 79 #[(.agg #[.int .i64 x.a, .int .i64 x.b, .int .i64 x.c, .int .i64 x.d])] w fun e w' => e = .returned (.agg #[.int .i64 x.a, .int .i64 x.b, .int .i64 x.c, .int .i64 x.d]) ∧ Below w.heap.size w w' := by
  go_enter Try.func79, Try.ntmps79
  go_wp2_with fail
  go_returns
  exact ⟨rfl, by go_grown⟩
theorem idx4 (a b c d : Value) (w : World) :
    (Instr.index 113 (.agg #[a, b, c, d]) (.int .i64 0)).run Try.prog w = .ok a w ∧
    (Instr.index 113 (.agg #[a, b, c, d]) (.int .i64 1)).run Try.prog w = .ok b w ∧
    (Instr.index 113 (.agg #[a, b, c, d]) (.int .i64 2)).run Try.prog w = .ok c w ∧
    (Instr.index 113 (.agg #[a, b, c, d]) (.int .i64 3)).run Try.prog w = .ok d w :=
  ⟨by kernel_rfl, by kernel_rfl, by kernel_rfl, by kernel_rfl⟩
set_option maxRecDepth 100000 in
set_option maxHeartbeats 800000 in
theorem ivalid_yes (x : Zw) (w : World) (h : x.ok) :
    Calls Try.prog 77 #[(.agg #[.int .i64 x.a, .int .i64 x.b, .int .i64 x.c, .int .i64 x.d])] w fun e w' => e = .returned (.bool true) ∧ Below w.heap.size w w' := by
  obtain ⟨a, b, c, d⟩ := x
  obtain ⟨⟨a0, a1⟩, ⟨b0, b1⟩, ⟨c0, c1⟩, ⟨d0, d1⟩⟩ := h
  simp only [] at a0 a1 b0 b1 c0 c1 d0 d1
  go_enter Try.func77, Try.ntmps77
  go_wp2_with fail
  refine (coefs ⟨a, b, c, d⟩ _).mono ?_
  rintro e w1 ⟨rfl, hb1⟩
  have hb2 := ((Below.refl _ _).alloc (Nat.le_refl _) _).trans (hb1.mono (by simp))
  obtain ⟨i0, i1, i2, i3⟩ := idx4 (.int .i64 a) (.int .i64 b) (.int .i64 c) (.int .i64 d) w1
  have Hb := Lib.hid hb2
  clear hb1 hb2
  go_wp2_with fail
  go_rounds 5
  go_returns
  exact ⟨rfl, Hb.out⟩
set_option maxRecDepth 100000 in
set_option maxHeartbeats 800000 in
theorem ivalid_no (x : Zw) (w : World) (h : ¬ x.ok) :
    Calls Try.prog 77 #[(.agg #[.int .i64 x.a, .int .i64 x.b, .int .i64 x.c, .int .i64 x.d])] w fun e w' => e = .returned (.bool false) ∧ Below w.heap.size w w' := by
  obtain ⟨a, b, c, d⟩ := x
  have h' : ¬ (Near a ∧ Near b ∧ Near c ∧ Near d) := h
  simp only [Near] at h'
  clear h
  have H := Lib.hid h'
  clear h'
  go_enter Try.func77, Try.ntmps77
  go_wp2_with fail
  refine (coefs ⟨a, b, c, d⟩ _).mono ?_
  rintro e w1 ⟨rfl, hb1⟩
  have hb2 := ((Below.refl _ _).alloc (Nat.le_refl _) _).trans (hb1.mono (by simp))
  obtain ⟨i0, i1, i2, i3⟩ := idx4 (.int .i64 a) (.int .i64 b) (.int .i64 c) (.int .i64 d) w1
  have Hb := Lib.hid hb2
  clear hb1 hb2
  go_wp2_with fail
  go_rounds 5
  all_goals go_returns
  all_goals first
    | exact ⟨rfl, Hb.out⟩
    | (exfalso; have := H.out; omega)
theorem ivalid_any (x : Zw) (b : Bool) (w : World) (h : okB x = b) :
    Calls Try.prog 77 #[(.agg #[.int .i64 x.a, .int .i64 x.b, .int .i64 x.c, .int .i64 x.d])] w fun e w' => e = .returned (.bool b) ∧ Below w.heap.size w w' := by
  cases b
  · exact ivalid_no x w (okB_false.1 h)
  · exact ivalid_yes x w (okB_true.1 h)
set_option maxRecDepth 100000 in
set_option maxHeartbeats 400000 in
theorem near_yes (n : Int) (w : World) (h : Near n) :
    Calls Try.prog 76 #[.int .i64 n] w fun e w' => e = .returned (.bool true) ∧ w = w' := by
  obtain ⟨h0, h1⟩ := h
  go_enter Try.func76, Try.ntmps76
  go_wp2_with (go_at_call 24; go_in)
  go_ret
  exact ⟨rfl, rfl⟩
set_option maxRecDepth 100000 in
set_option maxHeartbeats 400000 in
theorem near_no (n : Int) (w : World) (h : ¬ Near n) :
    Calls Try.prog 76 #[.int .i64 n] w fun e w' => e = .returned (.bool false) ∧ w = w' := by
  have h' : n < -1073741824 ∨ 1073741824 < n := by unfold Near at h; omega
  clear h
  rcases h' with h | h
  · go_enter Try.func76, Try.ntmps76
    go_wp2_with (go_at_call 24; go_in)
    go_ret
    exact ⟨rfl, rfl⟩
  · have h0 : -1073741824 ≤ n := by omega
    have hd : decide (n ≤ 1073741824) = false := by simpa using h
    go_enter Try.func76, Try.ntmps76
    go_wp2_with (go_at_call 24; go_in)
    go_ret
    exact ⟨rfl, rfl⟩
set_option maxRecDepth 100000 in
set_option maxHeartbeats 800000 in
theorem svalid_yes (x : Zw) (w : World) (h : x.ok) :
    Calls Try.prog 74 #[(.agg #[.int .i64 x.a, .int .i64 x.b, .int .i64 x.c, .int .i64 x.d])] w fun e w' => e = .returned (.bool true) ∧ Below w.heap.size w w' := by
  obtain ⟨a, b, c, d⟩ := x
  obtain ⟨ha, hb, hc, hd⟩ := h
  have Ha := Lib.hid ha
  have Hb := Lib.hid hb
  have Hc := Lib.hid hc
  have Hd := Lib.hid hd
  clear ha hb hc hd
  simp only [] at Ha Hb Hc Hd
  go_enter Try.func74, Try.ntmps74
  go_wp2_with fail
  refine (near_yes a _ Ha.out).mono ?_
  rintro e w1 ⟨rfl, rfl⟩
  go_wp2_with fail
  refine (near_yes b _ Hb.out).mono ?_
  rintro e w1 ⟨rfl, rfl⟩
  go_wp2_with fail
  refine (near_yes c _ Hc.out).mono ?_
  rintro e w1 ⟨rfl, rfl⟩
  go_wp2_with fail
  refine (near_yes d _ Hd.out).mono ?_
  rintro e w1 ⟨rfl, rfl⟩
  go_wp2_with fail
  go_returns
  exact ⟨rfl, by go_grown⟩
set_option maxRecDepth 100000 in
set_option maxHeartbeats 1600000 in
theorem svalid_no (x : Zw) (w : World) (h : ¬ x.ok) :
    Calls Try.prog 74 #[(.agg #[.int .i64 x.a, .int .i64 x.b, .int .i64 x.c, .int .i64 x.d])] w fun e w' => e = .returned (.bool false) ∧ Below w.heap.size w w' := by
  obtain ⟨a, b, c, d⟩ := x
  have H : Near a → Near b → Near c → ¬ Near d := fun p q r s => h ⟨p, q, r, s⟩
  clear h
  have Hd := Lib.hid H
  clear H
  go_enter Try.func74, Try.ntmps74
  go_wp2_with fail
  by_cases ha : Near a
  · have Ha := Lib.hid ha
    clear ha
    refine (near_yes a _ Ha.out).mono ?_
    rintro e w1 ⟨rfl, rfl⟩
    go_wp2_with fail
    by_cases hb : Near b
    · have Hb := Lib.hid hb
      clear hb
      refine (near_yes b _ Hb.out).mono ?_
      rintro e w1 ⟨rfl, rfl⟩
      go_wp2_with fail
      by_cases hc : Near c
      · have Hc := Lib.hid hc
        clear hc
        refine (near_yes c _ Hc.out).mono ?_
        rintro e w1 ⟨rfl, rfl⟩
        go_wp2_with fail
        refine (near_no d _ (Hd.out Ha.out Hb.out Hc.out)).mono ?_
        rintro e w1 ⟨rfl, rfl⟩
        go_wp2_with fail
        go_returns
        exact ⟨rfl, by go_grown⟩
      · refine (near_no c _ hc).mono ?_
        rintro e w1 ⟨rfl, rfl⟩
        clear hc
        go_wp2_with fail
        go_returns
        exact ⟨rfl, by go_grown⟩
    · refine (near_no b _ hb).mono ?_
      rintro e w1 ⟨rfl, rfl⟩
      clear hb
      go_wp2_with fail
      go_returns
      exact ⟨rfl, by go_grown⟩
  · refine (near_no a _ ha).mono ?_
    rintro e w1 ⟨rfl, rfl⟩
    clear ha
    go_wp2_with fail
    go_returns
    exact ⟨rfl, by go_grown⟩
theorem svalid_any (x : Zw) (b : Bool) (w : World) (h : okB x = b) :
    Calls Try.prog 74 #[(.agg #[.int .i64 x.a, .int .i64 x.b, .int .i64 x.c, .int .i64 x.d])] w fun e w' => e = .returned (.bool b) ∧ Below w.heap.size w w' := by
  cases b
  · exact svalid_no x w (okB_false.1 h)
  · exact svalid_yes x w (okB_true.1 h)
end Go.Proofs.Ytlmiebeffdcfhaa
namespace Go.Proofs.Ytlmiebeffdcfhaa
open Go.RowKit
/-- The code's bytes are there, below block B. -/
def CodeAt (w : World) (B : Nat) (a0 : Option Addr) (len : Nat) : Prop :=
  len ≤ 140737488351232 ∧ (0 < len → ∃ b off, a0 = some ⟨b, off, none⟩ ∧ b < B ∧ ∀ j, j < len → ∃ v : Int, 0 ≤ v ∧ v ≤ 255 ∧ w.cell? ⟨b, off + j, none⟩ = some (.int .u8 v))
theorem CodeAt.below {w w' : World} {B : Nat} {a0 : Option Addr} {len : Nat} (h : CodeAt w B a0 len) (hb : Below B w w') : CodeAt w' B a0 len :=
  ⟨h.1, fun h0 => by
    obtain ⟨b, off, e, hlt, hc⟩ := h.2 h0
    exact ⟨b, off, e, hlt, fun j hj => by obtain ⟨v, v0, v1, hv⟩ := hc j hj; exact ⟨v, v0, v1, by rw [hb.cell (by exact hlt)]; exact hv⟩⟩⟩
theorem CodeAt.mono {w : World} {B C : Nat} {a0 : Option Addr} {len : Nat} (h : CodeAt w B a0 len) (hB : B ≤ C) : CodeAt w C a0 len :=
  ⟨h.1, fun h0 => by obtain ⟨b, off, e, hlt, hc⟩ := h.2 h0; exact ⟨b, off, e, Nat.lt_of_lt_of_le hlt hB, hc⟩⟩
theorem CodeAt.own {w w' : World} {B : Nat} {a0 : Option Addr} {len : Nat} (h : CodeAt w B a0 len) (hb : Own B w w') : CodeAt w' B a0 len :=
  ⟨h.1, fun h0 => by
    obtain ⟨b, off, e, hlt, hc⟩ := h.2 h0
    refine ⟨b, off, e, hlt, fun j hj => ?_⟩
    obtain ⟨v, v0, v1, hv⟩ := hc j hj
    refine ⟨v, v0, v1, ?_⟩
    have hs := World.block_lt_of_cell? _ _ hv
    rw [World.cell?_of_block (w := w) (hb.block b hs (by intro e; injection e with e; omega))]
    exact hv⟩
theorem code_of {w : World} {x : Addr} {len : Nat} {zs : List Int} (hs : len ≤ 1048576) (hz : len ≤ zs.length) (hc : ∀ i, i < zs.length → w.cell? (x.add i) = some (.int .u8 (zs.getD i 0))) (hw : ∀ n ∈ zs, (Lit.int .u8 n).wf = true) : CodeAt w w.heap.size (some x) len := by
  refine ⟨by omega, fun h0 => ?_⟩
  obtain ⟨b, off, rfl, hcell⟩ := ints_at hc (by omega)
  refine ⟨b, off, rfl, World.block_lt_of_cell? _ _ (hcell 0 (by omega)), fun j hj => ⟨zs.getD j 0, ?_, ?_, hcell j (by omega)⟩⟩
  all_goals
    have hb := bounds_u8 (hw (zs.getD j 0) (by rw [List.getD_eq_getElem?_getD, List.getElem?_eq_getElem (by omega)]; exact List.getElem_mem _))
    omega
theorem and_bd (v : Int) (c : Nat) (hc : c < 4611686018427387904) : 0 ≤ bits .and .i64 v (c : Int) ∧ bits .and .i64 v (c : Int) ≤ c := by
  have e : bits .and .i64 v (c : Int) = IntKind.i64.wrap (((BitVec.ofInt 64 v &&& BitVec.ofInt 64 (c : Int)).toNat : Nat) : Int) := rfl
  have h2 : (BitVec.ofInt 64 (c : Int)).toNat = c := by
    rw [BitVec.ofInt_natCast, BitVec.toNat_ofNat]; exact Nat.mod_eq_of_lt (by omega)
  rw [e, BitVec.toNat_and, h2, IntKind.wrap_i64]
  have := Nat.and_le_right (n := (BitVec.ofInt 64 v).toNat) (m := c)
  omega
theorem and_255 (v : Int) : 0 ≤ bits .and .i64 v 255 ∧ bits .and .i64 v 255 ≤ 255 := and_bd v 255 (by omega)
end Go.Proofs.Ytlmiebeffdcfhaa
namespace Go.Proofs.Ytlmiebeffdcfhaa
open Go.RowKit
/-- A list that the call itself made: its cells, one an element. -/
def ListAt (w : World) (b n : Nat) (f : Nat → Value) : Prop := ∀ j, j < n → w.cell? ⟨b, j, none⟩ = some (f j)
theorem ListAt.own {w w' : World} {B b n : Nat} {f : Nat → Value} (h : ListAt w b n f) (ho : Own B w w') (hne : b ≠ B) : ListAt w' b n f := fun j hj =>
  World.grownBy.cell ho (h j hj) (by intro e; injection e with e; exact hne e)
end Go.Proofs.Ytlmiebeffdcfhaa
