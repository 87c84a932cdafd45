/- The program's table of actions. -/
import Derived.Test.YtlmiebeffdcfhaaGreatBaseC04
import Derived.Test.YtlmiebeffdcfhaaGreatApKs
import Derived.Laws.EntriesVeiled
namespace Go.Proofs.YtlmiebeffdcfhaaGreat
open Go.RowKit
def actA (p3 p5 p6 p7 p8 : Nat) : Array Value := #[.nilFunc, .func (.func 143) #[] #[], .func (.func 144) #[] #[], .func (.func 157) #[] #[.pointer (some ⟨p3, 0, none⟩)], .func (.func 146) #[] #[], .func (.func 157) #[] #[.pointer (some ⟨p5, 0, none⟩)], .func (.func 157) #[] #[.pointer (some ⟨p6, 0, none⟩)], .func (.func 157) #[] #[.pointer (some ⟨p7, 0, none⟩)], .func (.func 157) #[] #[.pointer (some ⟨p8, 0, none⟩)], .func (.func 147) #[] #[], .func (.func 148) #[] #[], .func (.func 149) #[] #[], .func (.func 150) #[] #[]]
def OneInt (w : World) (p : Nat) (u : Int) : Prop := w.heap[p]? = some (.cells #[.int .i64 u] 3 (0, 0))
theorem OneInt.set {w : World} {p b k : Nat} {u : Int} {v : Value} (h : OneInt w p u) (hn : b < p) : OneInt (w.setCell ⟨b, k, none⟩ v) p u := by
  show (w.heap.modify b _)[p]? = _
  rw [Array.getElem?_modify, if_neg (by omega)]
  exact h
theorem OneInt.below {w w' : World} {p : Nat} {u : Int} (h : OneInt w p u) (hb : Below w.heap.size w w') : OneInt w' p u := below_blk hb (lt_of_block h) h
attribute [local irreducible] World.cell?
set_option maxRecDepth 100000 in
set_option maxHeartbeats 800000 in
theorem iturnBy (u : Int) (w : World) : Calls Tryz.prog 145 #[.int .i64 u] w fun e w' => e = .returned (.func (.func 157) #[] #[.pointer (some ⟨w.heap.size, 0, none⟩)]) ∧ w' = w.alloc (.cells #[.int .i64 u] 3) := by
  go_enter Tryz.func145, Tryz.ntmps145
  go_wp2_with fail
  go_ret
  exact ⟨rfl, rfl⟩
set_option maxRecDepth 100000 in
set_option maxHeartbeats 1600000 in
theorem itable (w : World) : Calls Tryz.prog 134 #[] w fun e w' => (∃ p3 p5 p6 p7 p8 : Nat, e = .returned (.agg (actA p3 p5 p6 p7 p8)) ∧ OneInt w' p3 4 ∧ OneInt w' p5 2 ∧ OneInt w' p6 (-2) ∧ OneInt w' p7 1 ∧ OneInt w' p8 (-1)) ∧ Below w.heap.size w w' := by
  have H := Lib.hid (fun u W => iturnBy u W)
  have hA : ((((((w.alloc (.cells #[.nilFunc, .nilFunc, .nilFunc, .nilFunc, .nilFunc, .nilFunc, .nilFunc, .nilFunc, .nilFunc, .nilFunc, .nilFunc, .nilFunc, .nilFunc] 145)).alloc (.cells #[.int .i64 4] 3)).alloc (.cells #[.int .i64 2] 3)).alloc (.cells #[.int .i64 (-2)] 3)).alloc (.cells #[.int .i64 1] 3)).alloc (.cells #[.int .i64 (-1)] 3)).heap[w.heap.size]? = some (.cells #[.nilFunc, .nilFunc, .nilFunc, .nilFunc, .nilFunc, .nilFunc, .nilFunc, .nilFunc, .nilFunc, .nilFunc, .nilFunc, .nilFunc, .nilFunc] 145 (0, 0)) := alloc_blk _ (alloc_blk _ (alloc_blk _ (alloc_blk _ (alloc_blk _ (heap_alloc_new w (.cells #[.nilFunc, .nilFunc, .nilFunc, .nilFunc, .nilFunc, .nilFunc, .nilFunc, .nilFunc, .nilFunc, .nilFunc, .nilFunc, .nilFunc, .nilFunc] 145))))))
  have hb : Below w.heap.size w ((((((w.alloc (.cells #[.nilFunc, .nilFunc, .nilFunc, .nilFunc, .nilFunc, .nilFunc, .nilFunc, .nilFunc, .nilFunc, .nilFunc, .nilFunc, .nilFunc, .nilFunc] 145)).alloc (.cells #[.int .i64 4] 3)).alloc (.cells #[.int .i64 2] 3)).alloc (.cells #[.int .i64 (-2)] 3)).alloc (.cells #[.int .i64 1] 3)).alloc (.cells #[.int .i64 (-1)] 3)) := by go_grown
  have hp3 : OneInt ((((((w.alloc (.cells #[.nilFunc, .nilFunc, .nilFunc, .nilFunc, .nilFunc, .nilFunc, .nilFunc, .nilFunc, .nilFunc, .nilFunc, .nilFunc, .nilFunc, .nilFunc] 145)).alloc (.cells #[.int .i64 4] 3)).alloc (.cells #[.int .i64 2] 3)).alloc (.cells #[.int .i64 (-2)] 3)).alloc (.cells #[.int .i64 1] 3)).alloc (.cells #[.int .i64 (-1)] 3)) (w.heap.size + 1) 4 := (alloc_blk _ (alloc_blk _ (alloc_blk _ (alloc_blk _ (show ((w.alloc (.cells #[.nilFunc, .nilFunc, .nilFunc, .nilFunc, .nilFunc, .nilFunc, .nilFunc, .nilFunc, .nilFunc, .nilFunc, .nilFunc, .nilFunc, .nilFunc] 145)).alloc (.cells #[.int .i64 4] 3)).heap[w.heap.size + 1]? = _ from by simpa using heap_alloc_new (w.alloc (.cells #[.nilFunc, .nilFunc, .nilFunc, .nilFunc, .nilFunc, .nilFunc, .nilFunc, .nilFunc, .nilFunc, .nilFunc, .nilFunc, .nilFunc, .nilFunc] 145)) (.cells #[.int .i64 4] 3))))))
  have hp5 : OneInt ((((((w.alloc (.cells #[.nilFunc, .nilFunc, .nilFunc, .nilFunc, .nilFunc, .nilFunc, .nilFunc, .nilFunc, .nilFunc, .nilFunc, .nilFunc, .nilFunc, .nilFunc] 145)).alloc (.cells #[.int .i64 4] 3)).alloc (.cells #[.int .i64 2] 3)).alloc (.cells #[.int .i64 (-2)] 3)).alloc (.cells #[.int .i64 1] 3)).alloc (.cells #[.int .i64 (-1)] 3)) (w.heap.size + 1 + 1) 2 := (alloc_blk _ (alloc_blk _ (alloc_blk _ (show (((w.alloc (.cells #[.nilFunc, .nilFunc, .nilFunc, .nilFunc, .nilFunc, .nilFunc, .nilFunc, .nilFunc, .nilFunc, .nilFunc, .nilFunc, .nilFunc, .nilFunc] 145)).alloc (.cells #[.int .i64 4] 3)).alloc (.cells #[.int .i64 2] 3)).heap[w.heap.size + 1 + 1]? = _ from by simpa using heap_alloc_new ((w.alloc (.cells #[.nilFunc, .nilFunc, .nilFunc, .nilFunc, .nilFunc, .nilFunc, .nilFunc, .nilFunc, .nilFunc, .nilFunc, .nilFunc, .nilFunc, .nilFunc] 145)).alloc (.cells #[.int .i64 4] 3)) (.cells #[.int .i64 2] 3)))))
  have hp6 : OneInt ((((((w.alloc (.cells #[.nilFunc, .nilFunc, .nilFunc, .nilFunc, .nilFunc, .nilFunc, .nilFunc, .nilFunc, .nilFunc, .nilFunc, .nilFunc, .nilFunc, .nilFunc] 145)).alloc (.cells #[.int .i64 4] 3)).alloc (.cells #[.int .i64 2] 3)).alloc (.cells #[.int .i64 (-2)] 3)).alloc (.cells #[.int .i64 1] 3)).alloc (.cells #[.int .i64 (-1)] 3)) (w.heap.size + 1 + 1 + 1) (-2) := (alloc_blk _ (alloc_blk _ (show ((((w.alloc (.cells #[.nilFunc, .nilFunc, .nilFunc, .nilFunc, .nilFunc, .nilFunc, .nilFunc, .nilFunc, .nilFunc, .nilFunc, .nilFunc, .nilFunc, .nilFunc] 145)).alloc (.cells #[.int .i64 4] 3)).alloc (.cells #[.int .i64 2] 3)).alloc (.cells #[.int .i64 (-2)] 3)).heap[w.heap.size + 1 + 1 + 1]? = _ from by simpa using heap_alloc_new (((w.alloc (.cells #[.nilFunc, .nilFunc, .nilFunc, .nilFunc, .nilFunc, .nilFunc, .nilFunc, .nilFunc, .nilFunc, .nilFunc, .nilFunc, .nilFunc, .nilFunc] 145)).alloc (.cells #[.int .i64 4] 3)).alloc (.cells #[.int .i64 2] 3)) (.cells #[.int .i64 (-2)] 3))))
  have hp7 : OneInt ((((((w.alloc (.cells #[.nilFunc, .nilFunc, .nilFunc, .nilFunc, .nilFunc, .nilFunc, .nilFunc, .nilFunc, .nilFunc, .nilFunc, .nilFunc, .nilFunc, .nilFunc] 145)).alloc (.cells #[.int .i64 4] 3)).alloc (.cells #[.int .i64 2] 3)).alloc (.cells #[.int .i64 (-2)] 3)).alloc (.cells #[.int .i64 1] 3)).alloc (.cells #[.int .i64 (-1)] 3)) (w.heap.size + 1 + 1 + 1 + 1) 1 := (alloc_blk _ (show (((((w.alloc (.cells #[.nilFunc, .nilFunc, .nilFunc, .nilFunc, .nilFunc, .nilFunc, .nilFunc, .nilFunc, .nilFunc, .nilFunc, .nilFunc, .nilFunc, .nilFunc] 145)).alloc (.cells #[.int .i64 4] 3)).alloc (.cells #[.int .i64 2] 3)).alloc (.cells #[.int .i64 (-2)] 3)).alloc (.cells #[.int .i64 1] 3)).heap[w.heap.size + 1 + 1 + 1 + 1]? = _ from by simpa using heap_alloc_new ((((w.alloc (.cells #[.nilFunc, .nilFunc, .nilFunc, .nilFunc, .nilFunc, .nilFunc, .nilFunc, .nilFunc, .nilFunc, .nilFunc, .nilFunc, .nilFunc, .nilFunc] 145)).alloc (.cells #[.int .i64 4] 3)).alloc (.cells #[.int .i64 2] 3)).alloc (.cells #[.int .i64 (-2)] 3)) (.cells #[.int .i64 1] 3)))
  have hp8 : OneInt ((((((w.alloc (.cells #[.nilFunc, .nilFunc, .nilFunc, .nilFunc, .nilFunc, .nilFunc, .nilFunc, .nilFunc, .nilFunc, .nilFunc, .nilFunc, .nilFunc, .nilFunc] 145)).alloc (.cells #[.int .i64 4] 3)).alloc (.cells #[.int .i64 2] 3)).alloc (.cells #[.int .i64 (-2)] 3)).alloc (.cells #[.int .i64 1] 3)).alloc (.cells #[.int .i64 (-1)] 3)) (w.heap.size + 1 + 1 + 1 + 1 + 1) (-1) := (show ((((((w.alloc (.cells #[.nilFunc, .nilFunc, .nilFunc, .nilFunc, .nilFunc, .nilFunc, .nilFunc, .nilFunc, .nilFunc, .nilFunc, .nilFunc, .nilFunc, .nilFunc] 145)).alloc (.cells #[.int .i64 4] 3)).alloc (.cells #[.int .i64 2] 3)).alloc (.cells #[.int .i64 (-2)] 3)).alloc (.cells #[.int .i64 1] 3)).alloc (.cells #[.int .i64 (-1)] 3)).heap[w.heap.size + 1 + 1 + 1 + 1 + 1]? = _ from by simpa using heap_alloc_new (((((w.alloc (.cells #[.nilFunc, .nilFunc, .nilFunc, .nilFunc, .nilFunc, .nilFunc, .nilFunc, .nilFunc, .nilFunc, .nilFunc, .nilFunc, .nilFunc, .nilFunc] 145)).alloc (.cells #[.int .i64 4] 3)).alloc (.cells #[.int .i64 2] 3)).alloc (.cells #[.int .i64 (-2)] 3)).alloc (.cells #[.int .i64 1] 3)) (.cells #[.int .i64 (-1)] 3))
  go_enter Tryz.func134, Tryz.ntmps134
  go_wp2_with fail
  refine (H.out _ _).mono ?_
  rintro e w1 ⟨rfl, rfl⟩
  go_wp2_with fail
  refine (H.out _ _).mono ?_
  rintro e w1 ⟨rfl, rfl⟩
  go_wp2_with fail
  refine (H.out _ _).mono ?_
  rintro e w1 ⟨rfl, rfl⟩
  go_wp2_with fail
  refine (H.out _ _).mono ?_
  rintro e w1 ⟨rfl, rfl⟩
  go_wp2_with fail
  refine (H.out _ _).mono ?_
  rintro e w1 ⟨rfl, rfl⟩
  generalize ((((((w.alloc (.cells #[.nilFunc, .nilFunc, .nilFunc, .nilFunc, .nilFunc, .nilFunc, .nilFunc, .nilFunc, .nilFunc, .nilFunc, .nilFunc, .nilFunc, .nilFunc] 145)).alloc (.cells #[.int .i64 4] 3)).alloc (.cells #[.int .i64 2] 3)).alloc (.cells #[.int .i64 (-2)] 3)).alloc (.cells #[.int .i64 1] 3)).alloc (.cells #[.int .i64 (-1)] 3)) = w6 at *
  have z0 := cell_at hA 0 _ rfl
  have z1 := cell_at hA 1 _ rfl
  have z2 := cell_at hA 2 _ rfl
  have z3 := cell_at hA 3 _ rfl
  have z4 := cell_at hA 4 _ rfl
  have z5 := cell_at hA 5 _ rfl
  have z6 := cell_at hA 6 _ rfl
  have z7 := cell_at hA 7 _ rfl
  have z8 := cell_at hA 8 _ rfl
  have z9 := cell_at hA 9 _ rfl
  have z10 := cell_at hA 10 _ rfl
  have z11 := cell_at hA 11 _ rfl
  have z12 := cell_at hA 12 _ rfl
  have f6 := fun o => free_at hA o
  have HA := Lib.hid hA
  have Hb := Lib.hid hb
  have Hp3 := Lib.hid hp3
  have Hp5 := Lib.hid hp5
  have Hp6 := Lib.hid hp6
  have Hp7 := Lib.hid hp7
  have Hp8 := Lib.hid hp8
  have hzl := lt_of_block hA
  clear hA hb hp3 hp5 hp6 hp7 hp8 H
  go_wp2_with fail
  have qp3 : w.heap.size < w.heap.size + 1 := by omega
  have qp5 : w.heap.size < w.heap.size + 1 + 1 := by omega
  have qp6 : w.heap.size < w.heap.size + 1 + 1 + 1 := by omega
  have qp7 : w.heap.size < w.heap.size + 1 + 1 + 1 + 1 := by omega
  have qp8 : w.heap.size < w.heap.size + 1 + 1 + 1 + 1 + 1 := by omega
  generalize w.heap.size + 1 + 1 + 1 + 1 + 1 = p8 at *
  generalize w.heap.size + 1 + 1 + 1 + 1 = p7 at *
  generalize w.heap.size + 1 + 1 + 1 = p6 at *
  generalize w.heap.size + 1 + 1 = p5 at *
  generalize w.heap.size + 1 = p3 at *
  have h13 := (heap_set (heap_set (heap_set (heap_set (heap_set (heap_set (heap_set (heap_set (heap_set (heap_set (heap_set (heap_set (heap_set HA.out 0 (.nilFunc)) 1 (.func (.func 143) #[] #[])) 2 (.func (.func 144) #[] #[])) 3 (.func (.func 157) #[] #[.pointer (some ⟨p3, 0, none⟩)])) 4 (.func (.func 146) #[] #[])) 5 (.func (.func 157) #[] #[.pointer (some ⟨p5, 0, none⟩)])) 6 (.func (.func 157) #[] #[.pointer (some ⟨p6, 0, none⟩)])) 7 (.func (.func 157) #[] #[.pointer (some ⟨p7, 0, none⟩)])) 8 (.func (.func 157) #[] #[.pointer (some ⟨p8, 0, none⟩)])) 9 (.func (.func 147) #[] #[])) 10 (.func (.func 148) #[] #[])) 11 (.func (.func 149) #[] #[])) 12 (.func (.func 150) #[] #[]))
  simp only [List.setIfInBounds_toArray, List.set_cons_zero, List.set_cons_succ] at h13
  have k0 := cell_at h13 0 _ rfl
  have k1 := cell_at h13 1 _ rfl
  have k2 := cell_at h13 2 _ rfl
  have k3 := cell_at h13 3 _ rfl
  have k4 := cell_at h13 4 _ rfl
  have k5 := cell_at h13 5 _ rfl
  have k6 := cell_at h13 6 _ rfl
  have k7 := cell_at h13 7 _ rfl
  have k8 := cell_at h13 8 _ rfl
  have k9 := cell_at h13 9 _ rfl
  have k10 := cell_at h13 10 _ rfl
  have k11 := cell_at h13 11 _ rfl
  have k12 := cell_at h13 12 _ rfl
  refine bodyPost_ret (v := .agg (actA p3 p5 p6 p7 p8)) (by simp only [results, Tryz.results134]; simp [go_sem, actA, k0, k1, k2, k3, k4, k5, k6, k7, k8, k9, k10, k11, k12]) rfl ⟨?_, ?_⟩
  · exact ⟨p3, p5, p6, p7, p8, rfl, (((((((((((((Hp3.out.set qp3).set qp3).set qp3).set qp3).set qp3).set qp3).set qp3).set qp3).set qp3).set qp3).set qp3).set qp3).set qp3), (((((((((((((Hp5.out.set qp5).set qp5).set qp5).set qp5).set qp5).set qp5).set qp5).set qp5).set qp5).set qp5).set qp5).set qp5).set qp5), (((((((((((((Hp6.out.set qp6).set qp6).set qp6).set qp6).set qp6).set qp6).set qp6).set qp6).set qp6).set qp6).set qp6).set qp6).set qp6), (((((((((((((Hp7.out.set qp7).set qp7).set qp7).set qp7).set qp7).set qp7).set qp7).set qp7).set qp7).set qp7).set qp7).set qp7).set qp7), (((((((((((((Hp8.out.set qp8).set qp8).set qp8).set qp8).set qp8).set qp8).set qp8).set qp8).set qp8).set qp8).set qp8).set qp8).set qp8)⟩
  · have := Hb.out
    go_grown
end Go.Proofs.YtlmiebeffdcfhaaGreat
