/- A choice out of a list of strings. -/
import Derived.Test.YtgicldokglpimaaBaseB02
namespace Go.Proofs.Ytgicldokglpimaa
open Go.RowKit
set_option maxRecDepth 100000 in
set_option maxHeartbeats 400000 in
theorem pick_any (B b n cap : Nat) (f : Nat → ByteArray) (w : World) (hcur : CurAt w B) (hl : ListAt w b n (fun j => .string (f j))) (hne : b ≠ B) (h1 : 1 ≤ n) (h2 : n ≤ 1000000) :
    Calls Try.prog 44 #[.pointer (some ⟨B, 0, none⟩), .slice (some ⟨b, 0, none⟩) n cap] w fun e w' => (∃ j : Nat, j < n ∧ e = .returned (.string (f j))) ∧ CurAt w' B ∧ Own B w w' := by
  have Hc := Lib.hid hcur
  have Hl := Lib.hid hl
  clear hcur hl
  go_enter Try.func44, Try.ntmps44
  go_wp2_with fail
  refine (below_any B n _ Hc.out (by omega) (by omega)).mono ?_
  rintro e w1 ⟨⟨x, x0, x1, rfl⟩, hc1, ho1⟩
  obtain ⟨j, rfl⟩ := Int.eq_ofNat_of_zero_le x0
  have hj : j < n := by omega
  have hcell := (Hl.out.own ho1 hne) j hj
  have Hc1 := Lib.hid hc1
  have Ho1 := Lib.hid ho1
  clear hc1 ho1
  go_wp2_with fail
  go_ret
  exact ⟨⟨j, hj, rfl⟩, Hc1.out, Ho1.out⟩
end Go.Proofs.Ytgicldokglpimaa
