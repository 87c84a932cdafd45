/- A byte of the code, or 0. -/
import Derived.Test.YtbohbhhgmglcdaaZwDraw3
namespace Go.Proofs.Ytbohbhhgmglcdaa
open Go.RowKit
set_option maxRecDepth 100000 in
set_option maxHeartbeats 800000 in
theorem at0_any (a0 : Option Addr) (len cap k : Nat) (hk : k ≤ 100) (w : World) (_ : len ≤ cap) (hs : len ≤ 1048576) (hcode : CodeAt w w.heap.size a0 len) :
    Calls Try.prog 32 #[.slice a0 len cap, .int .i64 k] w fun e w' => (∃ v : Int, e = .returned (.int .i64 v) ∧ 0 ≤ v ∧ v ≤ 255) ∧ w = w' := by
  by_cases h : k < len
  · obtain ⟨b, off, rfl, hb, hc⟩ := hcode.2 (by omega)
    obtain ⟨v, v0, v1, hv⟩ := hc k h
    clear hcode hc
    go_enter Try.func32, Try.ntmps32
    go_wp2_with fail
    go_ret
    exact ⟨⟨v, rfl, v0, v1⟩, rfl⟩
  · clear hcode
    go_enter Try.func32, Try.ntmps32
    go_wp2_with fail
    go_ret
    exact ⟨⟨_, rfl, by omega, by omega⟩, rfl⟩
end Go.Proofs.Ytbohbhhgmglcdaa
