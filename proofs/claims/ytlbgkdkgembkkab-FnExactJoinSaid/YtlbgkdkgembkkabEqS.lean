/- The laws' own comparison of rows of strings. -/
import Derived.Test.YtlbgkdkgembkkabRow
import Derived.Deep.QuietTactic
import Derived.BigQuiet
namespace Go.Proofs.Ytlbgkdkgembkkab
open Go.RowKit
set_option maxRecDepth 100000 in
set_option maxHeartbeats 400000 in
theorem eqS_any (a b n m ca cb : Nat) (f g : Nat → ByteArray) (w : World) (ha : StrRow w a n f) (hb : StrRow w b m g) (hn : n ≤ 1073741824) (hm : m ≤ 1073741824) (hnm : n = m) (he : ∀ j, j < n → f j = g j) :
    Calls Try.prog 8 #[.slice (some ⟨a, 0, none⟩) n ca, .slice (some ⟨b, 0, none⟩) m cb] w fun e w' => e = .returned (.bool true) ∧ Below w.heap.size w w' := by
  subst hnm
  have Ha := Lib.hid ha
  have Hb := Lib.hid hb
  have He := Lib.hid he
  clear ha hb he
  go_enter Try.func8, Try.ntmps8
  go_wp2_with fail
  go_loopw [5] (fun i wr => ∃ j : Nat, j ≤ n ∧ i = .int .i64 j ∧ Below w.heap.size w wr) (fun i _ => n - (intOf i).toNat)
  case atStart => exact ⟨0, Nat.zero_le _, rfl, Below.refl _ _⟩
  case round =>
    obtain ⟨j, hj, rfl, hbel⟩ := hrel
    by_cases hlt : j < n
    · have c1 := (Ha.out.below hbel Ha.out.lt).cell hlt
      have c2 := (Hb.out.below hbel Hb.out.lt).cell hlt
      rw [← He.out j hlt] at c2
      have Hbel := Lib.hid hbel
      clear hbel
      go_wp2_with fail
      go_quiet (fail)
      go_wp2_with fail
      go_roundw
      case rel => exact ⟨j + 1, by omega, by go_num, below_drewN Hbel.out _⟩
      case measure => simp [intOf]; omega
    · obtain rfl : j = n := by omega
      go_wp2_with fail
      go_ret
      exact ⟨rfl, hbel⟩
end Go.Proofs.Ytlbgkdkgembkkab
