/- B08: several of our texts in one: GtN TcG GtKc. -/
import Derived.Test.YtbnkanlebjpkfaaDoorB03
import Derived.Test.YtbnkanlebjpkfaaDoorB06
import Derived.Test.YtbnkanlebjpkfaaDoorB15
import Derived.Test.YtbnkanlebjpkfaaDoorB04
import Derived.Test.YtbnkanlebjpkfaaDoorGtKb
namespace Go.Proofs.YtbnkanlebjpkfaaDoor
open Go.RowKit Go.Lib
theorem gNames : Tryd.prog.globalNamed "loop.example/g00506/impl.gateNames" = some 0 := by kernel_rfl
theorem gNamesType : (Tryd.prog.globals[0]?).map (·.type) = some 75 := by kernel_rfl
theorem cellsNames : Tryd.prog.cellsOf 75 = 13 := by kernel_rfl
theorem cellsName : Tryd.prog.cellsOf 9 = 1 := by kernel_rfl
/-- The names' bytes. -/
def namesL : List (List UInt8) := [[], [120], [121], [122], [104], [115], [115, 100], [116], [116, 100], [99, 120], [99, 122], [115, 119, 97, 112], [99, 99, 120]]
def HasNames (w : World) : Prop := StrsIs Tryd.prog w "loop.example/g00506/impl.gateNames" namesL
theorem HasNames.below {w w' : World} (h : HasNames w) (hb : Below w.heap.size w w') : HasNames w' := StrsIs.below h gNames hb
theorem HasNames.at {w : World} (h : HasNames w) {m : Nat} (h1 : 1 ≤ m) (h12 : m ≤ 12) : w.cell? ⟨0, m, none⟩ = some (.string (nmB (m : Int))) := by
  rcases (show m = 1 ∨ m = 2 ∨ m = 3 ∨ m = 4 ∨ m = 5 ∨ m = 6 ∨ m = 7 ∨ m = 8 ∨ m = 9 ∨ m = 10 ∨ m = 11 ∨ m = 12 by omega) with rfl | rfl | rfl | rfl | rfl | rfl | rfl | rfl | rfl | rfl | rfl | rfl
  all_goals exact StrsIs.cell h gNames _ rfl
attribute [local irreducible] World.cell?
set_option maxRecDepth 100000 in
set_option maxHeartbeats 1600000 in
theorem iname0 (k : Int) (w : World) (hn : HasNames w) : Calls Tryd.prog 30 #[.int .i64 k] w fun e w' => e = .returned (.string (nmB k)) ∧ w = w' := by
  have Ha := Lib.hid (fun w => iar0 k w)
  by_cases h : 1 ≤ k ∧ k ≤ 12
  · obtain ⟨m, rfl⟩ : ∃ m : Nat, k = m := ⟨k.toNat, by omega⟩
    have c0 := hn.at (m := m) (by omega) (by omega)
    have hp : 0 < ar (m : Int) := by unfold ar; (repeat' split) <;> omega
    have hm : m ≤ 12 := by omega
    generalize nmB (m : Int) = s at *
    generalize ar (m : Int) = t at *
    have ht : ((t : Int) == 0) = false := by simp; omega
    clear hn h hp
    go_enter Tryd.func30, Tryd.ntmps30
    go_wp2_with fail
    refine (Ha.out _).mono ?_
    rintro e w1 ⟨rfl, rfl⟩
    go_wp2_with fail
    go_ret
    exact ⟨rfl, rfl⟩
  · rw [show nmB k = ⟨#[]⟩ from if_neg h]
    rw [show ar k = 0 by unfold ar; rw [if_neg (by omega), if_neg (by omega), if_neg (by omega)]] at Ha
    clear h hn
    go_enter Tryd.func30, Tryd.ntmps30
    go_wp2_with fail
    refine (Ha.out _).mono ?_
    rintro e w1 ⟨rfl, rfl⟩
    go_wp2_with fail
    go_ret
    exact ⟨rfl, rfl⟩
theorem laidNames {W : World} {r : List (String × DataW Unit)} (h : laidMet Tryd.prog (("loop.example/g00506/impl.gateNames", Rows.laid_loop_example_g00506_impl_gateNames) :: r) W) : HasNames W :=
  strsIs_of_head gNames gNamesType Tryd.underlying75 Tryd.underlying9 cellsName cellsNames h
end Go.Proofs.YtbnkanlebjpkfaaDoor
namespace Go.Proofs.YtbnkanlebjpkfaaDoor
theorem dq_mono {l : List Int} {n : Int} (hn : n ≤ 4) (h : dq l n = true) : dq l 4 = true := by
  unfold dq at h ⊢
  rw [List.all_eq_true] at h ⊢
  intro j hj
  have h1 := h j hj
  unfold dqOk at h1 ⊢
  rw [Bool.and_eq_true, decide_eq_true_eq] at h1 ⊢
  exact ⟨⟨h1.1.1, by omega⟩, h1.2⟩
theorem gtB_mono {g : Gt} {n : Int} (h : gtB g n = true) : gtB g 4 = true := by
  obtain ⟨hn, -⟩ := gtB_parts h
  obtain ⟨k, a, b, c⟩ := g
  have h3 := ar_le k
  have h0 : ar k ≠ 0 := fun e => by rw [gtB_zero e] at h; cases h
  have h4 : (1 : Int) ≤ 4 ∧ (4 : Int) ≤ 4 := by decide
  rcases (show ar k = 1 ∨ ar k = 2 ∨ ar k = 3 by omega) with e | e | e
  · rw [gtB_1 e hn, Bool.and_eq_true] at h
    rw [gtB_1 e h4, Bool.and_eq_true]
    exact ⟨h.1, dq_mono hn.2 h.2⟩
  · rw [gtB_2 e hn, Bool.and_eq_true] at h
    rw [gtB_2 e h4, Bool.and_eq_true]
    exact ⟨h.1, dq_mono hn.2 h.2⟩
  · rw [gtB_3 e hn] at h
    rw [gtB_3 e h4]
    exact dq_mono hn.2 h
theorem ciB_parts {n : Int} {L : List Gt} (h : ciB n L = true) : (∀ g ∈ L, gtB g n = true) ∧ (1 ≤ n ∧ n ≤ 4) ∧ L.length ≤ 60 := by
  unfold ciB at h
  simp only [Bool.and_eq_true, decide_eq_true_eq, List.all_eq_true] at h
  exact ⟨h.1, h.2.1, h.2.2⟩
end Go.Proofs.YtbnkanlebjpkfaaDoor
namespace Go.Proofs.YtbnkanlebjpkfaaDoor
open Go.RowKit
/-- The box of a gate lies at B. -/
def GB (w : World) (B : Nat) (g : Gt) (w' : World) : Prop := w'.cell? ⟨B, 0, none⟩ = some (.int .i64 g.k) ∧ w'.cell? ⟨B, 1, none⟩ = some (.int .i64 g.a) ∧ w'.cell? ⟨B, 2, none⟩ = some (.int .i64 g.b) ∧ w'.cell? ⟨B, 3, none⟩ = some (.int .i64 g.c) ∧ B < w'.heap.size ∧ Below w.heap.size w w'
theorem GB.drew {w w1 : World} {B : Nat} {g : Gt} (h : GB w B g w1) : GB w B g w1.drew :=
  let ⟨c0, c1, c2, c3, z0, l⟩ := h; ⟨c0, c1, c2, c3, z0, l.drew⟩
theorem GB.alloc {w w1 : World} {B : Nat} {g : Gt} {o : Obj} (h : GB w B g w1) : GB w B g (w1.alloc o) :=
  let ⟨c0, c1, c2, c3, z0, l⟩ := h
  have e : ∀ k, (w1.alloc o).cell? ⟨B, k, none⟩ = w1.cell? ⟨B, k, none⟩ := fun k => (Below.refl w1.heap.size w1).alloc (Nat.le_refl _) o |>.cell (by exact z0)
  ⟨(e 0).trans c0, (e 1).trans c1, (e 2).trans c2, (e 3).trans c3, by simp; omega, l.alloc l.size o⟩
attribute [local irreducible] World.cell?
set_option maxRecDepth 100000 in
set_option maxHeartbeats 3200000 in
theorem igqs0 (g : Gt) (w : World) : Calls Tryd.prog 31 #[(.agg #[.int .i64 g.k, .int .i64 g.a, .int .i64 g.b, .int .i64 g.c])] w fun e w' => e = .returned (.slice (some ⟨w.heap.size + 1, 0, none⟩) (ar g.k) 3) ∧ intE.Row w' (w.heap.size + 1) (gqs g) ∧ Below w.heap.size w w' := by
  have Ha := Lib.hid (fun w => iar0 g.k w)
  have HX := Lib.hid (heap_alloc_new w (.cells #[.int .i64 g.k, .int .i64 g.a, .int .i64 g.b, .int .i64 g.c] 25))
  have hb0 : Below w.heap.size w (w.alloc (.cells #[.int .i64 g.k, .int .i64 g.a, .int .i64 g.b, .int .i64 g.c] 25)) := by go_grown
  obtain ⟨c0, c1, c2, c3⟩ := blk_cells HX.out
  have hS : GB w w.heap.size g (w.alloc (.cells #[.int .i64 g.k, .int .i64 g.a, .int .i64 g.b, .int .i64 g.c] 25)) := ⟨c0, c1, c2, c3, by simp, hb0⟩
  have h3 := ar_le g.k
  have hR : intE.Row (((w.alloc (.cells #[.int .i64 g.k, .int .i64 g.a, .int .i64 g.b, .int .i64 g.c] 25)).alloc (.cells #[.int .i64 g.a, .int .i64 g.b, .int .i64 g.c] 3)).drew) (w.heap.size + 1) (gqs g) := by
    have h1 : ((w.alloc (.cells #[.int .i64 g.k, .int .i64 g.a, .int .i64 g.b, .int .i64 g.c] 25)).alloc (.cells #[.int .i64 g.a, .int .i64 g.b, .int .i64 g.c] 3)).drew.heap[w.heap.size + 1]? = some (.cells #[.int .i64 g.a, .int .i64 g.b, .int .i64 g.c] 3 (0, 0)) := by
      have h := heap_alloc_new (w.alloc (.cells #[.int .i64 g.k, .int .i64 g.a, .int .i64 g.b, .int .i64 g.c] 25)) (.cells #[.int .i64 g.a, .int .i64 g.b, .int .i64 g.c] 3)
      rw [show (w.alloc (.cells #[.int .i64 g.k, .int .i64 g.a, .int .i64 g.b, .int .i64 g.c] 25)).heap.size = w.heap.size + 1 by simp] at h
      exact h
    exact Enc.Row.take (E := intE) (l := [g.a, g.b, g.c]) ⟨#[.int .i64 g.a, .int .i64 g.b, .int .i64 g.c], h1, rfl⟩ (ar g.k)
  have hV := Lib.hid hR
  have hB := Lib.hid (show Below w.heap.size w (((w.alloc (.cells #[.int .i64 g.k, .int .i64 g.a, .int .i64 g.b, .int .i64 g.c] 25)).alloc (.cells #[.int .i64 g.a, .int .i64 g.b, .int .i64 g.c] 3)).drew) by go_grown)
  clear hR
  generalize ar g.k = t at *
  have ht : (t : Int) ≤ 3 := by omega
  clear hb0
  go_enter Tryd.func31, Tryd.ntmps31
  go_upto_region 1 with fail
  go_region_held3 (fun w' => w'.cell? ⟨w.heap.size, 0, none⟩ = some (.int .i64 g.k) ∧ w'.cell? ⟨w.heap.size, 1, none⟩ = some (.int .i64 g.a) ∧ w'.cell? ⟨w.heap.size, 2, none⟩ = some (.int .i64 g.b) ∧ w'.cell? ⟨w.heap.size, 3, none⟩ = some (.int .i64 g.c) ∧ w.heap.size < w'.heap.size ∧ Below w.heap.size w w') (first | (show GB _ _ _ _; (with_reducible exact hS.drew)) | (show GB _ _ _ _; (with_reducible exact (GB.alloc hS).drew)) | (show GB _ _ _ _; exact (GB.alloc hS).drew) | (show GB _ _ _ _; (with_reducible refine GB.alloc ?_); first | assumption | exact ⟨by assumption, by assumption, by assumption, by assumption, by assumption, by assumption⟩))
    (first | (go_at_call 38; refine (Ha.out _).mono ?_; rintro e wR ⟨rfl, rfl⟩))
  all_goals go_wp2_with fail
  all_goals go_ret
  all_goals exact ⟨rfl, hV.out, hB.out⟩
end Go.Proofs.YtbnkanlebjpkfaaDoor
