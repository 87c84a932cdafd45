/- The program's GateName, in a world that holds its table. -/
import Derived.Test.YtgknokaibgckkaaDoorGtKa
import Derived.Test.YtgknokaibgckkaaDoorStrTab
namespace Go.Proofs.YtgknokaibgckkaaDoor
open Go.RowKit Go.Lib
theorem gNames : Tryd.prog.globalNamed "loop.example/g00506/impl.gateNames" = some 0 := by kernel_rfl
theorem gNamesType : (Tryd.prog.globals[0]?).map (·.type) = some 27 := by kernel_rfl
theorem cellsNames : Tryd.prog.cellsOf 27 = 13 := by kernel_rfl
theorem cellsName : Tryd.prog.cellsOf 9 = 1 := by kernel_rfl
/-- The names' bytes. -/
def namesL : List (List UInt8) := [[], [120], [121], [122], [104], [115], [115, 100], [116], [116, 100], [99, 120], [99, 122], [115, 119, 97, 112], [99, 99, 120]]
def HasNames (w : World) : Prop := StrsIs Tryd.prog w "loop.example/g00506/impl.gateNames" namesL
theorem HasNames.below {w w' : World} (h : HasNames w) (hb : Below w.heap.size w w') : HasNames w' := StrsIs.below h gNames hb
theorem HasNames.at {w : World} (h : HasNames w) {m : Nat} (h1 : 1 ≤ m) (h12 : m ≤ 12) : w.cell? ⟨0, m, none⟩ = some (.string (nmB (m : Int))) := by
  rcases (show m = 1 ∨ m = 2 ∨ m = 3 ∨ m = 4 ∨ m = 5 ∨ m = 6 ∨ m = 7 ∨ m = 8 ∨ m = 9 ∨ m = 10 ∨ m = 11 ∨ m = 12 by omega) with rfl | rfl | rfl | rfl | rfl | rfl | rfl | rfl | rfl | rfl | rfl | rfl
  all_goals exact StrsIs.cell h gNames _ rfl
attribute [local irreducible] World.cell?
set_option maxRecDepth 100000 in
set_option maxHeartbeats 1600000 in
theorem iname0 (k : Int) (w : World) (hn : HasNames w) : Calls Tryd.prog 5 #[.int .i64 k] w fun e w' => e = .returned (.string (nmB k)) ∧ w = w' := by
  have Ha := Lib.hid (fun w => iar0 k w)
  by_cases h : 1 ≤ k ∧ k ≤ 12
  · obtain ⟨m, rfl⟩ : ∃ m : Nat, k = m := ⟨k.toNat, by omega⟩
    have c0 := hn.at (m := m) (by omega) (by omega)
    have hp : 0 < ar (m : Int) := by unfold ar; (repeat' split) <;> omega
    have hm : m ≤ 12 := by omega
    generalize nmB (m : Int) = s at *
    generalize ar (m : Int) = t at *
    have ht : ((t : Int) == 0) = false := by simp; omega
    clear hn h hp
    go_enter Tryd.func5, Tryd.ntmps5
    go_wp2_with fail
    refine (Ha.out _).mono ?_
    rintro e w1 ⟨rfl, rfl⟩
    go_wp2_with fail
    go_ret
    exact ⟨rfl, rfl⟩
  · rw [show nmB k = ⟨#[]⟩ from if_neg h]
    rw [show ar k = 0 by unfold ar; rw [if_neg (by omega), if_neg (by omega), if_neg (by omega)]] at Ha
    clear h hn
    go_enter Tryd.func5, Tryd.ntmps5
    go_wp2_with fail
    refine (Ha.out _).mono ?_
    rintro e w1 ⟨rfl, rfl⟩
    go_wp2_with fail
    go_ret
    exact ⟨rfl, rfl⟩
theorem iname (k : Int) (w : World) (hn : HasNames w) : Calls Tryd.prog 5 #[.int .i64 k] w fun e w' => e = .returned (.string (nmB k)) ∧ Below w.heap.size w w' :=
  (iname0 k w hn).mono fun e w' ⟨h1, h2⟩ => ⟨h1, by subst h2; exact Below.refl _ _⟩
theorem laidNames {W : World} {r : List (String × DataW Unit)} (h : laidMet Tryd.prog (("loop.example/g00506/impl.gateNames", Rows.laid_loop_example_g00506_impl_gateNames) :: r) W) : HasNames W :=
  strsIs_of_head gNames gNamesType Tryd.underlying27 Tryd.underlying9 cellsName cellsNames h
end Go.Proofs.YtgknokaibgckkaaDoor
