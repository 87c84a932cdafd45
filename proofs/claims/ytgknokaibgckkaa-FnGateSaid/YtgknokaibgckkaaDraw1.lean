/- A new cursor; a choice out of a list; the first chapter's draws. -/
import Derived.Test.YtgknokaibgckkaaCur
namespace Go.Proofs.Ytgknokaibgckkaa
open Go.RowKit
set_option maxRecDepth 100000 in
set_option maxHeartbeats 400000 in
theorem new_any (a0 : Option Addr) (len cap : Nat) (w : World) (hcode : CodeAt w w.heap.size a0 len) :
    Calls Try.prog 30 #[.slice a0 len cap] w fun e w' => e = .returned (.pointer (some ⟨w.heap.size, 0, none⟩)) ∧ CurAt w' w.heap.size ∧ Below w.heap.size w w' ∧ w.heap.size < w'.heap.size := by
  have hlen := hcode.1
  have Hc := Lib.hid hcode
  clear hcode
  go_enter Try.func30, Try.ntmps30
  go_wp2_with fail
  go_loop [3, 4] (fun h i => ∃ (k : Nat) (x : Int), k ≤ len ∧ i = .int .i64 k ∧ h = .int .i64 x) (fun _ i => len - (intOf i).toNat)
  case atStart => exact ⟨0, _, Nat.zero_le _, rfl, rfl⟩
  case round =>
    obtain ⟨k, x, hk, rfl, rfl⟩ := hrel
    by_cases hlt : k < len
    · obtain ⟨b, off, rfl, hbB, hcells⟩ := Hc.out.2 (by omega)
      obtain ⟨v, v0, v1, hv⟩ := hcells k hlt
      clear hcells
      by_cases h4 : k < 4000
      · go_wp2_with fail
        go_round
        case rel => exact ⟨k + 1, _, by omega, by go_num, rfl⟩
        case measure => simp [intOf]; omega
      · go_wp2_with fail
        go_ret
        exact ⟨rfl, ⟨_, len, cap, 0, _, by first | rfl | exact heap_alloc_new _ _, Nat.zero_le _, Hc.out.below ((Below.refl _ _).alloc (Nat.le_refl _) _)⟩, (Below.refl _ _).alloc (Nat.le_refl _) _, by simp⟩
    · go_wp2_with fail
      go_ret
      exact ⟨rfl, ⟨_, len, cap, 0, _, by first | rfl | exact heap_alloc_new _ _, Nat.zero_le _, Hc.out.below ((Below.refl _ _).alloc (Nat.le_refl _) _)⟩, (Below.refl _ _).alloc (Nat.le_refl _) _, by simp⟩
set_option maxRecDepth 100000 in
set_option maxHeartbeats 400000 in
theorem once_any (B : Nat) (n : Int) (w : World) (hcur : CurAt w B) (h1 : 1 ≤ n) (h2 : n ≤ 9223372036854775807) :
    Calls Try.prog 33 #[.pointer (some ⟨B, 0, none⟩), .int .i64 n] w fun e w' => (∃ x : Bool, e = .returned (.bool x)) ∧ CurAt w' B ∧ Own B w w' := by
  have Hc := Lib.hid hcur
  clear hcur
  go_enter Try.func33, Try.ntmps33
  go_wp2_with fail
  refine (below_any B n _ Hc.out h1 h2).mono ?_
  rintro e w1 ⟨⟨x, x0, x1, rfl⟩, hc1, ho1⟩
  have Hc1 := Lib.hid hc1
  have Ho1 := Lib.hid ho1
  clear hc1 ho1
  go_wp2_with fail
  go_ret
  exact ⟨⟨_, rfl⟩, Hc1.out, Ho1.out⟩
/-- A list that the call itself made: its cells, one an element. -/
def ListAt (w : World) (b n : Nat) (f : Nat → Value) : Prop := ∀ j, j < n → w.cell? ⟨b, j, none⟩ = some (f j)
theorem ListAt.own {w w' : World} {B b n : Nat} {f : Nat → Value} (h : ListAt w b n f) (ho : Own B w w') (hne : b ≠ B) : ListAt w' b n f := fun j hj =>
  World.grownBy.cell ho (h j hj) (by intro e; injection e with e; exact hne e)
set_option maxRecDepth 100000 in
set_option maxHeartbeats 400000 in
theorem pickInt_any (B b n cap : Nat) (f : Nat → Int) (w : World) (hcur : CurAt w B) (hl : ListAt w b n (fun j => .int .i64 (f j))) (hne : b ≠ B) (h1 : 1 ≤ n) (h2 : n ≤ 1000000) :
    Calls Try.prog 34 #[.pointer (some ⟨B, 0, none⟩), .slice (some ⟨b, 0, none⟩) n cap] w fun e w' => (∃ j : Nat, j < n ∧ e = .returned (.int .i64 (f j))) ∧ CurAt w' B ∧ Own B w w' := by
  have Hc := Lib.hid hcur
  have Hl := Lib.hid hl
  clear hcur hl
  go_enter Try.func34, Try.ntmps34
  go_wp2_with fail
  refine (below_any B n _ Hc.out (by omega) (by omega)).mono ?_
  rintro e w1 ⟨⟨x, x0, x1, rfl⟩, hc1, ho1⟩
  obtain ⟨j, rfl⟩ := Int.eq_ofNat_of_zero_le x0
  have hj : j < n := by omega
  have hcell := (Hl.out.own ho1 hne) j hj
  have Hc1 := Lib.hid hc1
  have Ho1 := Lib.hid ho1
  clear hc1 ho1
  go_wp2_with fail
  go_ret
  exact ⟨⟨j, hj, rfl⟩, Hc1.out, Ho1.out⟩
end Go.Proofs.Ytgknokaibgckkaa
