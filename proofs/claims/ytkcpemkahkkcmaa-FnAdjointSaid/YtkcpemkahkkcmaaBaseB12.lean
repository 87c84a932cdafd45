/- BaseB12: several of our texts in one: ApKt ApKu AgV AgN. -/
import Derived.Test.YtkcpemkahkkcmaaBaseB21
import Derived.Test.YtkcpemkahkkcmaaApKs
import Derived.Laws.EntriesVeiled
import Derived.Test.YtkcpemkahkkcmaaBaseB06
import Derived.Test.YtkcpemkahkkcmaaBaseB11
import Derived.Test.YtkcpemkahkkcmaaBaseB16
namespace Go.Proofs.Ytkcpemkahkkcmaa
open Go.RowKit
def actA (p3 p5 p6 p7 p8 : Nat) : Array Value := #[.nilFunc, .func (.func 147) #[] #[], .func (.func 148) #[] #[], .func (.func 177) #[] #[.pointer (some ⟨p3, 0, none⟩)], .func (.func 150) #[] #[], .func (.func 177) #[] #[.pointer (some ⟨p5, 0, none⟩)], .func (.func 177) #[] #[.pointer (some ⟨p6, 0, none⟩)], .func (.func 177) #[] #[.pointer (some ⟨p7, 0, none⟩)], .func (.func 177) #[] #[.pointer (some ⟨p8, 0, none⟩)], .func (.func 151) #[] #[], .func (.func 152) #[] #[], .func (.func 153) #[] #[], .func (.func 154) #[] #[]]
def OneInt (w : World) (p : Nat) (u : Int) : Prop := w.heap[p]? = some (.cells #[.int .i64 u] 3 (0, 0))
theorem OneInt.set {w : World} {p b k : Nat} {u : Int} {v : Value} (h : OneInt w p u) (hn : b < p) : OneInt (w.setCell ⟨b, k, none⟩ v) p u := by
  show (w.heap.modify b _)[p]? = _
  rw [Array.getElem?_modify, if_neg (by omega)]
  exact h
theorem OneInt.below {w w' : World} {p : Nat} {u : Int} (h : OneInt w p u) (hb : Below w.heap.size w w') : OneInt w' p u := below_blk hb (lt_of_block h) h
attribute [local irreducible] World.cell?
set_option maxRecDepth 100000 in
set_option maxHeartbeats 800000 in
theorem iturnBy (u : Int) (w : World) : Calls Try.prog 149 #[.int .i64 u] w fun e w' => e = .returned (.func (.func 177) #[] #[.pointer (some ⟨w.heap.size, 0, none⟩)]) ∧ w' = w.alloc (.cells #[.int .i64 u] 3) := by
  go_enter Try.func149, Try.ntmps149
  go_wp2_with fail
  go_ret
  exact ⟨rfl, rfl⟩
set_option maxRecDepth 100000 in
set_option maxHeartbeats 1600000 in
theorem itable (w : World) : Calls Try.prog 105 #[] w fun e w' => (∃ p3 p5 p6 p7 p8 : Nat, e = .returned (.agg (actA p3 p5 p6 p7 p8)) ∧ OneInt w' p3 4 ∧ OneInt w' p5 2 ∧ OneInt w' p6 (-2) ∧ OneInt w' p7 1 ∧ OneInt w' p8 (-1)) ∧ Below w.heap.size w w' := by
  have H := Lib.hid (fun u W => iturnBy u W)
  have hA : ((((((w.alloc (.cells #[.nilFunc, .nilFunc, .nilFunc, .nilFunc, .nilFunc, .nilFunc, .nilFunc, .nilFunc, .nilFunc, .nilFunc, .nilFunc, .nilFunc, .nilFunc] 118)).alloc (.cells #[.int .i64 4] 3)).alloc (.cells #[.int .i64 2] 3)).alloc (.cells #[.int .i64 (-2)] 3)).alloc (.cells #[.int .i64 1] 3)).alloc (.cells #[.int .i64 (-1)] 3)).heap[w.heap.size]? = some (.cells #[.nilFunc, .nilFunc, .nilFunc, .nilFunc, .nilFunc, .nilFunc, .nilFunc, .nilFunc, .nilFunc, .nilFunc, .nilFunc, .nilFunc, .nilFunc] 118 (0, 0)) := alloc_blk _ (alloc_blk _ (alloc_blk _ (alloc_blk _ (alloc_blk _ (heap_alloc_new w (.cells #[.nilFunc, .nilFunc, .nilFunc, .nilFunc, .nilFunc, .nilFunc, .nilFunc, .nilFunc, .nilFunc, .nilFunc, .nilFunc, .nilFunc, .nilFunc] 118))))))
  have hb : Below w.heap.size w ((((((w.alloc (.cells #[.nilFunc, .nilFunc, .nilFunc, .nilFunc, .nilFunc, .nilFunc, .nilFunc, .nilFunc, .nilFunc, .nilFunc, .nilFunc, .nilFunc, .nilFunc] 118)).alloc (.cells #[.int .i64 4] 3)).alloc (.cells #[.int .i64 2] 3)).alloc (.cells #[.int .i64 (-2)] 3)).alloc (.cells #[.int .i64 1] 3)).alloc (.cells #[.int .i64 (-1)] 3)) := by go_grown
  have hp3 : OneInt ((((((w.alloc (.cells #[.nilFunc, .nilFunc, .nilFunc, .nilFunc, .nilFunc, .nilFunc, .nilFunc, .nilFunc, .nilFunc, .nilFunc, .nilFunc, .nilFunc, .nilFunc] 118)).alloc (.cells #[.int .i64 4] 3)).alloc (.cells #[.int .i64 2] 3)).alloc (.cells #[.int .i64 (-2)] 3)).alloc (.cells #[.int .i64 1] 3)).alloc (.cells #[.int .i64 (-1)] 3)) (w.heap.size + 1) 4 := (alloc_blk _ (alloc_blk _ (alloc_blk _ (alloc_blk _ (show ((w.alloc (.cells #[.nilFunc, .nilFunc, .nilFunc, .nilFunc, .nilFunc, .nilFunc, .nilFunc, .nilFunc, .nilFunc, .nilFunc, .nilFunc, .nilFunc, .nilFunc] 118)).alloc (.cells #[.int .i64 4] 3)).heap[w.heap.size + 1]? = _ from by simpa using heap_alloc_new (w.alloc (.cells #[.nilFunc, .nilFunc, .nilFunc, .nilFunc, .nilFunc, .nilFunc, .nilFunc, .nilFunc, .nilFunc, .nilFunc, .nilFunc, .nilFunc, .nilFunc] 118)) (.cells #[.int .i64 4] 3))))))
  have hp5 : OneInt ((((((w.alloc (.cells #[.nilFunc, .nilFunc, .nilFunc, .nilFunc, .nilFunc, .nilFunc, .nilFunc, .nilFunc, .nilFunc, .nilFunc, .nilFunc, .nilFunc, .nilFunc] 118)).alloc (.cells #[.int .i64 4] 3)).alloc (.cells #[.int .i64 2] 3)).alloc (.cells #[.int .i64 (-2)] 3)).alloc (.cells #[.int .i64 1] 3)).alloc (.cells #[.int .i64 (-1)] 3)) (w.heap.size + 1 + 1) 2 := (alloc_blk _ (alloc_blk _ (alloc_blk _ (show (((w.alloc (.cells #[.nilFunc, .nilFunc, .nilFunc, .nilFunc, .nilFunc, .nilFunc, .nilFunc, .nilFunc, .nilFunc, .nilFunc, .nilFunc, .nilFunc, .nilFunc] 118)).alloc (.cells #[.int .i64 4] 3)).alloc (.cells #[.int .i64 2] 3)).heap[w.heap.size + 1 + 1]? = _ from by simpa using heap_alloc_new ((w.alloc (.cells #[.nilFunc, .nilFunc, .nilFunc, .nilFunc, .nilFunc, .nilFunc, .nilFunc, .nilFunc, .nilFunc, .nilFunc, .nilFunc, .nilFunc, .nilFunc] 118)).alloc (.cells #[.int .i64 4] 3)) (.cells #[.int .i64 2] 3)))))
  have hp6 : OneInt ((((((w.alloc (.cells #[.nilFunc, .nilFunc, .nilFunc, .nilFunc, .nilFunc, .nilFunc, .nilFunc, .nilFunc, .nilFunc, .nilFunc, .nilFunc, .nilFunc, .nilFunc] 118)).alloc (.cells #[.int .i64 4] 3)).alloc (.cells #[.int .i64 2] 3)).alloc (.cells #[.int .i64 (-2)] 3)).alloc (.cells #[.int .i64 1] 3)).alloc (.cells #[.int .i64 (-1)] 3)) (w.heap.size + 1 + 1 + 1) (-2) := (alloc_blk _ (alloc_blk _ (show ((((w.alloc (.cells #[.nilFunc, .nilFunc, .nilFunc, .nilFunc, .nilFunc, .nilFunc, .nilFunc, .nilFunc, .nilFunc, .nilFunc, .nilFunc, .nilFunc, .nilFunc] 118)).alloc (.cells #[.int .i64 4] 3)).alloc (.cells #[.int .i64 2] 3)).alloc (.cells #[.int .i64 (-2)] 3)).heap[w.heap.size + 1 + 1 + 1]? = _ from by simpa using heap_alloc_new (((w.alloc (.cells #[.nilFunc, .nilFunc, .nilFunc, .nilFunc, .nilFunc, .nilFunc, .nilFunc, .nilFunc, .nilFunc, .nilFunc, .nilFunc, .nilFunc, .nilFunc] 118)).alloc (.cells #[.int .i64 4] 3)).alloc (.cells #[.int .i64 2] 3)) (.cells #[.int .i64 (-2)] 3))))
  have hp7 : OneInt ((((((w.alloc (.cells #[.nilFunc, .nilFunc, .nilFunc, .nilFunc, .nilFunc, .nilFunc, .nilFunc, .nilFunc, .nilFunc, .nilFunc, .nilFunc, .nilFunc, .nilFunc] 118)).alloc (.cells #[.int .i64 4] 3)).alloc (.cells #[.int .i64 2] 3)).alloc (.cells #[.int .i64 (-2)] 3)).alloc (.cells #[.int .i64 1] 3)).alloc (.cells #[.int .i64 (-1)] 3)) (w.heap.size + 1 + 1 + 1 + 1) 1 := (alloc_blk _ (show (((((w.alloc (.cells #[.nilFunc, .nilFunc, .nilFunc, .nilFunc, .nilFunc, .nilFunc, .nilFunc, .nilFunc, .nilFunc, .nilFunc, .nilFunc, .nilFunc, .nilFunc] 118)).alloc (.cells #[.int .i64 4] 3)).alloc (.cells #[.int .i64 2] 3)).alloc (.cells #[.int .i64 (-2)] 3)).alloc (.cells #[.int .i64 1] 3)).heap[w.heap.size + 1 + 1 + 1 + 1]? = _ from by simpa using heap_alloc_new ((((w.alloc (.cells #[.nilFunc, .nilFunc, .nilFunc, .nilFunc, .nilFunc, .nilFunc, .nilFunc, .nilFunc, .nilFunc, .nilFunc, .nilFunc, .nilFunc, .nilFunc] 118)).alloc (.cells #[.int .i64 4] 3)).alloc (.cells #[.int .i64 2] 3)).alloc (.cells #[.int .i64 (-2)] 3)) (.cells #[.int .i64 1] 3)))
  have hp8 : OneInt ((((((w.alloc (.cells #[.nilFunc, .nilFunc, .nilFunc, .nilFunc, .nilFunc, .nilFunc, .nilFunc, .nilFunc, .nilFunc, .nilFunc, .nilFunc, .nilFunc, .nilFunc] 118)).alloc (.cells #[.int .i64 4] 3)).alloc (.cells #[.int .i64 2] 3)).alloc (.cells #[.int .i64 (-2)] 3)).alloc (.cells #[.int .i64 1] 3)).alloc (.cells #[.int .i64 (-1)] 3)) (w.heap.size + 1 + 1 + 1 + 1 + 1) (-1) := (show ((((((w.alloc (.cells #[.nilFunc, .nilFunc, .nilFunc, .nilFunc, .nilFunc, .nilFunc, .nilFunc, .nilFunc, .nilFunc, .nilFunc, .nilFunc, .nilFunc, .nilFunc] 118)).alloc (.cells #[.int .i64 4] 3)).alloc (.cells #[.int .i64 2] 3)).alloc (.cells #[.int .i64 (-2)] 3)).alloc (.cells #[.int .i64 1] 3)).alloc (.cells #[.int .i64 (-1)] 3)).heap[w.heap.size + 1 + 1 + 1 + 1 + 1]? = _ from by simpa using heap_alloc_new (((((w.alloc (.cells #[.nilFunc, .nilFunc, .nilFunc, .nilFunc, .nilFunc, .nilFunc, .nilFunc, .nilFunc, .nilFunc, .nilFunc, .nilFunc, .nilFunc, .nilFunc] 118)).alloc (.cells #[.int .i64 4] 3)).alloc (.cells #[.int .i64 2] 3)).alloc (.cells #[.int .i64 (-2)] 3)).alloc (.cells #[.int .i64 1] 3)) (.cells #[.int .i64 (-1)] 3))
  go_enter Try.func105, Try.ntmps105
  go_wp2_with fail
  refine (H.out _ _).mono ?_
  rintro e w1 ⟨rfl, rfl⟩
  go_wp2_with fail
  refine (H.out _ _).mono ?_
  rintro e w1 ⟨rfl, rfl⟩
  go_wp2_with fail
  refine (H.out _ _).mono ?_
  rintro e w1 ⟨rfl, rfl⟩
  go_wp2_with fail
  refine (H.out _ _).mono ?_
  rintro e w1 ⟨rfl, rfl⟩
  go_wp2_with fail
  refine (H.out _ _).mono ?_
  rintro e w1 ⟨rfl, rfl⟩
  generalize ((((((w.alloc (.cells #[.nilFunc, .nilFunc, .nilFunc, .nilFunc, .nilFunc, .nilFunc, .nilFunc, .nilFunc, .nilFunc, .nilFunc, .nilFunc, .nilFunc, .nilFunc] 118)).alloc (.cells #[.int .i64 4] 3)).alloc (.cells #[.int .i64 2] 3)).alloc (.cells #[.int .i64 (-2)] 3)).alloc (.cells #[.int .i64 1] 3)).alloc (.cells #[.int .i64 (-1)] 3)) = w6 at *
  have z0 := cell_at hA 0 _ rfl
  have z1 := cell_at hA 1 _ rfl
  have z2 := cell_at hA 2 _ rfl
  have z3 := cell_at hA 3 _ rfl
  have z4 := cell_at hA 4 _ rfl
  have z5 := cell_at hA 5 _ rfl
  have z6 := cell_at hA 6 _ rfl
  have z7 := cell_at hA 7 _ rfl
  have z8 := cell_at hA 8 _ rfl
  have z9 := cell_at hA 9 _ rfl
  have z10 := cell_at hA 10 _ rfl
  have z11 := cell_at hA 11 _ rfl
  have z12 := cell_at hA 12 _ rfl
  have f6 := fun o => free_at hA o
  have HA := Lib.hid hA
  have Hb := Lib.hid hb
  have Hp3 := Lib.hid hp3
  have Hp5 := Lib.hid hp5
  have Hp6 := Lib.hid hp6
  have Hp7 := Lib.hid hp7
  have Hp8 := Lib.hid hp8
  have hzl := lt_of_block hA
  clear hA hb hp3 hp5 hp6 hp7 hp8 H
  go_wp2_with fail
  have qp3 : w.heap.size < w.heap.size + 1 := by omega
  have qp5 : w.heap.size < w.heap.size + 1 + 1 := by omega
  have qp6 : w.heap.size < w.heap.size + 1 + 1 + 1 := by omega
  have qp7 : w.heap.size < w.heap.size + 1 + 1 + 1 + 1 := by omega
  have qp8 : w.heap.size < w.heap.size + 1 + 1 + 1 + 1 + 1 := by omega
  generalize w.heap.size + 1 + 1 + 1 + 1 + 1 = p8 at *
  generalize w.heap.size + 1 + 1 + 1 + 1 = p7 at *
  generalize w.heap.size + 1 + 1 + 1 = p6 at *
  generalize w.heap.size + 1 + 1 = p5 at *
  generalize w.heap.size + 1 = p3 at *
  have h13 := (heap_set (heap_set (heap_set (heap_set (heap_set (heap_set (heap_set (heap_set (heap_set (heap_set (heap_set (heap_set (heap_set HA.out 0 (.nilFunc)) 1 (.func (.func 147) #[] #[])) 2 (.func (.func 148) #[] #[])) 3 (.func (.func 177) #[] #[.pointer (some ⟨p3, 0, none⟩)])) 4 (.func (.func 150) #[] #[])) 5 (.func (.func 177) #[] #[.pointer (some ⟨p5, 0, none⟩)])) 6 (.func (.func 177) #[] #[.pointer (some ⟨p6, 0, none⟩)])) 7 (.func (.func 177) #[] #[.pointer (some ⟨p7, 0, none⟩)])) 8 (.func (.func 177) #[] #[.pointer (some ⟨p8, 0, none⟩)])) 9 (.func (.func 151) #[] #[])) 10 (.func (.func 152) #[] #[])) 11 (.func (.func 153) #[] #[])) 12 (.func (.func 154) #[] #[]))
  simp only [List.setIfInBounds_toArray, List.set_cons_zero, List.set_cons_succ] at h13
  have k0 := cell_at h13 0 _ rfl
  have k1 := cell_at h13 1 _ rfl
  have k2 := cell_at h13 2 _ rfl
  have k3 := cell_at h13 3 _ rfl
  have k4 := cell_at h13 4 _ rfl
  have k5 := cell_at h13 5 _ rfl
  have k6 := cell_at h13 6 _ rfl
  have k7 := cell_at h13 7 _ rfl
  have k8 := cell_at h13 8 _ rfl
  have k9 := cell_at h13 9 _ rfl
  have k10 := cell_at h13 10 _ rfl
  have k11 := cell_at h13 11 _ rfl
  have k12 := cell_at h13 12 _ rfl
  refine bodyPost_ret (v := .agg (actA p3 p5 p6 p7 p8)) (by simp only [results, Try.results105]; simp [go_sem, actA, k0, k1, k2, k3, k4, k5, k6, k7, k8, k9, k10, k11, k12]) rfl ⟨?_, ?_⟩
  · exact ⟨p3, p5, p6, p7, p8, rfl, (((((((((((((Hp3.out.set qp3).set qp3).set qp3).set qp3).set qp3).set qp3).set qp3).set qp3).set qp3).set qp3).set qp3).set qp3).set qp3), (((((((((((((Hp5.out.set qp5).set qp5).set qp5).set qp5).set qp5).set qp5).set qp5).set qp5).set qp5).set qp5).set qp5).set qp5).set qp5), (((((((((((((Hp6.out.set qp6).set qp6).set qp6).set qp6).set qp6).set qp6).set qp6).set qp6).set qp6).set qp6).set qp6).set qp6).set qp6), (((((((((((((Hp7.out.set qp7).set qp7).set qp7).set qp7).set qp7).set qp7).set qp7).set qp7).set qp7).set qp7).set qp7).set qp7).set qp7), (((((((((((((Hp8.out.set qp8).set qp8).set qp8).set qp8).set qp8).set qp8).set qp8).set qp8).set qp8).set qp8).set qp8).set qp8).set qp8)⟩
  · have := Hb.out
    go_grown
end Go.Proofs.Ytkcpemkahkkcmaa
namespace Go.Proofs.Ytkcpemkahkkcmaa
open Go.RowKit
/-- The function value F, C is the action of the gate g, in w and wherever memory has grown since. -/
def ActOK (F : Nat) (C : Array Value) (g : Gt) (w : World) : Prop :=
  (∀ (args : Array Value) (W : World), (callFunc F args).run Try.prog W = .ok (.enter F args) W) ∧ ∀ W, Below w.heap.size w W → ∀ i : Nat, i < 16 → Calls Try.prog F (#[(.agg #[.int .i64 g.k, .int .i64 g.a, .int .i64 g.b, .int .i64 g.c]), .int .i64 (i : Int)] ++ C) W fun e w' => ∃ v, e = .returned v ∧ contE.Sl w' W.heap.size v (goesG g i) ∧ Below W.heap.size W w'
def gin (a b c : Int) : Prop := (0 ≤ a ∧ a < 4) ∧ (0 ≤ b ∧ b < 4) ∧ (0 ≤ c ∧ c < 4)
theorem gin_nat {a b c : Int} (h : gin a b c) : ∃ A B C : Nat, a = A ∧ b = B ∧ c = C ∧ A < 4 ∧ B < 4 ∧ C < 4 := by
  obtain ⟨h1, h2, h3⟩ := h
  exact ⟨a.toNat, b.toNat, c.toNat, by omega, by omega, by omega, by omega, by omega, by omega⟩
theorem act1 {a b c : Int} (h : gin a b c) (w : World) : ActOK 147 #[] ⟨1, a, b, c⟩ w := by
  obtain ⟨A, B, C, rfl, rfl, rfl, hA, hB, hC⟩ := gin_nat h
  exact ⟨Try.call147, fun W _ i hi => iflip 1 A B C i W hA hB hC hi⟩
theorem act2 {a b c : Int} (h : gin a b c) (w : World) : ActOK 148 #[] ⟨2, a, b, c⟩ w := by
  obtain ⟨A, B, C, rfl, rfl, rfl, hA, hB, hC⟩ := gin_nat h
  exact ⟨Try.call148, fun W _ i hi => iflipT 2 A B C i W hA hB hC hi⟩
theorem act3 {a b c : Int} {p : Nat} (h : gin a b c) (w : World) (hp : OneInt w p 4) : ActOK 177 #[.pointer (some ⟨p, 0, none⟩)] ⟨3, a, b, c⟩ w := by
  obtain ⟨A, B, C, rfl, rfl, rfl, hA, hB, hC⟩ := gin_nat h
  exact ⟨Try.call177, fun W hW i hi => iturn1 3 A B C i 4 p _ W hA hB hC hi ((hW.block _ (lt_of_block hp)).trans hp) ((unitW (bitN i A)).1 4 (by decide))⟩
theorem act4 {a b c : Int} (h : gin a b c) (w : World) : ActOK 150 #[] ⟨4, a, b, c⟩ w := by
  obtain ⟨A, B, C, rfl, rfl, rfl, hA, hB, hC⟩ := gin_nat h
  exact ⟨Try.call150, fun W _ i hi => ispread 4 A B C i W hA hi⟩
theorem act5 {a b c : Int} {p : Nat} (h : gin a b c) (w : World) (hp : OneInt w p 2) : ActOK 177 #[.pointer (some ⟨p, 0, none⟩)] ⟨5, a, b, c⟩ w := by
  obtain ⟨A, B, C, rfl, rfl, rfl, hA, hB, hC⟩ := gin_nat h
  exact ⟨Try.call177, fun W hW i hi => iturn1 5 A B C i 2 p _ W hA hB hC hi ((hW.block _ (lt_of_block hp)).trans hp) ((unitW (bitN i A)).1 2 (by decide))⟩
theorem act6 {a b c : Int} {p : Nat} (h : gin a b c) (w : World) (hp : OneInt w p (-2)) : ActOK 177 #[.pointer (some ⟨p, 0, none⟩)] ⟨6, a, b, c⟩ w := by
  obtain ⟨A, B, C, rfl, rfl, rfl, hA, hB, hC⟩ := gin_nat h
  exact ⟨Try.call177, fun W hW i hi => iturn1 6 A B C i (-2) p _ W hA hB hC hi ((hW.block _ (lt_of_block hp)).trans hp) (unitW (bitN i A)).2.1⟩
theorem act7 {a b c : Int} {p : Nat} (h : gin a b c) (w : World) (hp : OneInt w p 1) : ActOK 177 #[.pointer (some ⟨p, 0, none⟩)] ⟨7, a, b, c⟩ w := by
  obtain ⟨A, B, C, rfl, rfl, rfl, hA, hB, hC⟩ := gin_nat h
  exact ⟨Try.call177, fun W hW i hi => iturn1 7 A B C i 1 p _ W hA hB hC hi ((hW.block _ (lt_of_block hp)).trans hp) ((unitW (bitN i A)).1 1 (by decide))⟩
theorem act8 {a b c : Int} {p : Nat} (h : gin a b c) (w : World) (hp : OneInt w p (-1)) : ActOK 177 #[.pointer (some ⟨p, 0, none⟩)] ⟨8, a, b, c⟩ w := by
  obtain ⟨A, B, C, rfl, rfl, rfl, hA, hB, hC⟩ := gin_nat h
  exact ⟨Try.call177, fun W hW i hi => iturn1 8 A B C i (-1) p _ W hA hB hC hi ((hW.block _ (lt_of_block hp)).trans hp) (unitW (bitN i A)).2.2⟩
theorem act9 {a b c : Int} (h : gin a b c) (w : World) : ActOK 151 #[] ⟨9, a, b, c⟩ w := by
  obtain ⟨A, B, C, rfl, rfl, rfl, hA, hB, hC⟩ := gin_nat h
  exact ⟨Try.call151, fun W _ i hi => iflipO 9 A B C i W hA hB hC hi⟩
theorem act10 {a b c : Int} (h : gin a b c) (w : World) : ActOK 152 #[] ⟨10, a, b, c⟩ w := by
  obtain ⟨A, B, C, rfl, rfl, rfl, hA, hB, hC⟩ := gin_nat h
  exact ⟨Try.call152, fun W _ i hi => iturnB 10 A B C i W hA hB hC hi⟩
theorem act11 {a b c : Int} (h : gin a b c) (w : World) : ActOK 153 #[] ⟨11, a, b, c⟩ w := by
  obtain ⟨A, B, C, rfl, rfl, rfl, hA, hB, hC⟩ := gin_nat h
  exact ⟨Try.call153, fun W _ i hi => iexch 11 A B C i W hA hB hC hi⟩
theorem act12 {a b c : Int} (h : gin a b c) (w : World) : ActOK 154 #[] ⟨12, a, b, c⟩ w := by
  obtain ⟨A, B, C, rfl, rfl, rfl, hA, hB, hC⟩ := gin_nat h
  exact ⟨Try.call154, fun W _ i hi => iflipB 12 A B C i W hA hB hC hi⟩
end Go.Proofs.Ytkcpemkahkkcmaa
namespace Go.Proofs.Ytkcpemkahkkcmaa
theorem dAddB_ok {x y : Dw} (h : dAddB x y = true) : x.ok ∧ y.ok := ⟨(dAddB_iff.1 h).1, (dAddB_iff.1 h).2.1⟩
theorem dMulB_ok {x y : Dw} (h : dMulB x y = true) : x.ok ∧ y.ok := ⟨(dMulB_iff.1 h).1, (dMulB_iff.1 h).2.1⟩
theorem add_assoc' (x y z : Zw) : (x.add y).add z = x.add (y.add z) := by
  apply Zw.ext4 <;> simp only [Zw.add] <;> omega
theorem add_zero' (x : Zw) : x.add .zero = x := by
  apply Zw.ext4 <;> simp [Zw.add, Zw.zero]
theorem zero_add' (x : Zw) : Zw.zero.add x = x := by
  apply Zw.ext4 <;> simp [Zw.add, Zw.zero]
theorem zero_mul' (x : Zw) : Zw.zero.mul x = .zero := by
  apply Zw.ext4 <;> simp [Zw.mul, Zw.zero]
theorem mul_zero' (x : Zw) : x.mul .zero = .zero := by
  apply Zw.ext4 <;> simp [Zw.mul, Zw.zero]
theorem mul_add' (x y z : Zw) : x.mul (y.add z) = (x.mul y).add (x.mul z) := by
  rw [← mul_comm', add_mul', mul_comm' y, mul_comm' z]
theorem rootN_z : ∀ k, rootN k .zero = .zero
  | 0 => rfl
  | k + 1 => rootN_z k
/-- The numerator over the sixtieth power of the root. -/
def vl (x : Dw) : Zw := rootN (60 - x.e.toNat) x.n
theorem vl_zero : vl .zero = .zero := rootN_z _
theorem vl_add {x y : Dw} (h : dAddB x y = true) : vl (dAddV x y) = (vl x).add (vl y) := by
  have ha := adds_of h
  have hx := (dAddB_ok h).1.2.2.1
  have hy := (dAddB_ok h).2.2.2.1
  have hs := (dAddV_ok h).2.2.1
  generalize dAddV x y = s at *
  unfold Adds at ha
  apply rootN_inj (k := x.e.toNat + y.e.toNat + s.e.toNat)
  unfold vl
  rw [rootN_addZ, ← rootN_add, ← rootN_add, ← rootN_add, show 60 - s.e.toNat + (x.e.toNat + y.e.toNat + s.e.toNat) = (x.e.toNat + y.e.toNat) + 60 by omega, rootN_add, ha, ← rootN_add, rootN_addZ, ← rootN_add, ← rootN_add]
  congr 1 <;> congr 1 <;> omega
theorem vl_mul {x y : Dw} (h : dMulB x y = true) : rootN 60 (vl (dMulV x y)) = (vl x).mul (vl y) := by
  have ha := muls_of h
  have hx := (dMulB_ok h).1.2.2.1
  have hy := (dMulB_ok h).2.2.2.1
  have hs := (dMulV_ok h).2.2.1
  generalize dMulV x y = s at *
  unfold Muls at ha
  apply rootN_inj (k := x.e.toNat + y.e.toNat + s.e.toNat)
  unfold vl
  rw [← rootN_mul2, ← rootN_add, ← rootN_add, ← rootN_add, show 60 - s.e.toNat + (60 + (x.e.toNat + y.e.toNat + s.e.toNat)) = (x.e.toNat + y.e.toNat) + 120 by omega, rootN_add, ha, ← rootN_add]
  congr 1; omega
/-- A factor over the root. -/
def wt (b : Dw) : Zw := rootN (1 - b.e.toNat) b.n
theorem vl_wt {b : Dw} (h : b.e.toNat ≤ 1) : vl b = rootN 59 (wt b) := by
  unfold vl wt
  rw [← rootN_add]
  congr 1; omega
theorem vl_mulW {x b : Dw} (h : dMulB x b = true) (hb : b.e.toNat ≤ 1) : (vl (dMulV x b)).root = (vl x).mul (wt b) := by
  have h1 := vl_mul h
  rw [vl_wt hb, mul_comm' (rootN 59 (wt b)), ← rootN_mul, mul_comm' (vl x), show (60 : Nat) = 1 + 59 from rfl, rootN_add] at h1
  exact rootN_inj h1
/-- A sum of n numbers. -/
def sumZ : Nat → (Nat → Zw) → Zw
  | 0, _ => .zero
  | n + 1, f => (sumZ n f).add (f n)
theorem sumZ_congr {n : Nat} {f g : Nat → Zw} (h : ∀ i, i < n → f i = g i) : sumZ n f = sumZ n g := by
  induction n with
  | zero => rfl
  | succ n ih => rw [sumZ, sumZ, ih fun i hi => h i (by omega), h n (by omega)]
/-- What a sum loses at its head. -/
theorem sumZ_head (n : Nat) (f : Nat → Zw) : sumZ (n + 1) f = (f 0).add (sumZ n fun i => f (i + 1)) := by
  induction n with
  | zero => rw [sumZ, sumZ, sumZ, zero_add', add_zero']
  | succ n ih => rw [sumZ, ih, sumZ, add_assoc']
/-- What a list of places gives to place j. -/
def cf : List (Nat × Dw) → Nat → Zw
  | [], _ => .zero
  | p :: r, j => if p.1 = j then (wt p.2).add (cf r j) else cf r j
theorem getD_set (o : List Dw) (k j : Nat) (z : Dw) (hk : k < o.length) : (o.set k z).getD j .zero = if k = j then z else o.getD j .zero := by
  rw [List.getD_eq_getElem?_getD, List.getElem?_set, List.getD_eq_getElem?_getD]
  by_cases e : k = j
  · rw [if_pos e, if_pos e, if_pos hk]; rfl
  · rw [if_neg e, if_neg e]
theorem set_ok' {o : List Dw} {p : Nat} {z : Dw} (h : ∀ y ∈ o, y.ok) (hz : z.ok) : ∀ y ∈ o.set p z, y.ok := fun y hy => by
  rcases List.mem_or_eq_of_mem_set hy with h1 | rfl
  · exact h y h1
  · exact hz
/-- An amplitude sent: what is added at each place. -/
theorem send_val {x : Dw} : ∀ {L : List (Nat × Dw)} {o o' : List Dw}, sendO x L o = some o' → (∀ y ∈ o, y.ok) → (∀ p ∈ L, p.1 < o.length ∧ p.2.e.toNat ≤ 1) →
    o'.length = o.length ∧ (∀ y ∈ o', y.ok) ∧ ∀ j, (vl (o'.getD j .zero)).root = ((vl (o.getD j .zero)).root).add ((vl x).mul (cf L j))
  | [], o, o', h, ho, _ => by
    rw [sendO] at h
    cases h
    exact ⟨rfl, ho, fun j => by rw [cf, mul_zero', add_zero']⟩
  | p :: r, o, o', h, ho, hL => by
    obtain ⟨hp1, hp2⟩ := hL p (List.mem_cons_self ..)
    rw [sendO] at h
    split at h
    · rename_i hb
      rw [Bool.and_eq_true] at hb
      obtain ⟨h1, h2, h3⟩ := send_val h (set_ok' ho (dAddV_ok hb.2)) fun q hq => by
        rw [List.length_set]; exact hL q (List.mem_cons_of_mem _ hq)
      refine ⟨by rw [h1, List.length_set], h2, fun j => ?_⟩
      rw [h3, getD_set _ _ _ _ hp1, cf]
      by_cases e : p.1 = j
      · subst e
        rw [if_pos rfl, if_pos rfl, vl_add hb.2, root_add, vl_mulW hb.1 hp2, mul_add', add_assoc']
      · rw [if_neg e, if_neg e]
    · cases h
/-- All amplitudes sent. -/
theorem ap_val {G : Nat → List (Nat × Dw)} {N : Nat} (hG : ∀ i, i < N → ∀ p ∈ G i, p.1 < N ∧ p.2.e.toNat ≤ 1) : ∀ {v : List Dw} {i : Nat} {o o' : List Dw}, apO G i v o = some o' → i + v.length ≤ N → o.length = N → (∀ y ∈ o, y.ok) →
    o'.length = N ∧ (∀ y ∈ o', y.ok) ∧ ∀ j, (vl (o'.getD j .zero)).root = ((vl (o.getD j .zero)).root).add (sumZ v.length fun a => (vl (v.getD a .zero)).mul (cf (G (i + a)) j))
  | [], i, o, o', h, _, hl, ho => by
    rw [apO] at h
    cases h
    exact ⟨hl, ho, fun j => by rw [List.length_nil, sumZ, add_zero']⟩
  | x :: r, i, o, o', h, hi, hl, ho => by
    rw [List.length_cons] at hi
    have hs : ∀ j, sumZ (r.length + 1) (fun a => (vl ((x :: r).getD a .zero)).mul (cf (G (i + a)) j)) = ((vl x).mul (cf (G i) j)).add (sumZ r.length fun a => (vl (r.getD a .zero)).mul (cf (G (i + 1 + a)) j)) := fun j => by
      rw [sumZ_head]
      congr 1
      refine sumZ_congr fun a _ => ?_
      rw [show i + (a + 1) = i + 1 + a by omega]
      rfl
    rw [apO] at h
    split at h
    · rename_i hx
      obtain ⟨h1, h2, h3⟩ := ap_val hG h (by omega) hl ho
      refine ⟨h1, h2, fun j => ?_⟩
      rw [List.length_cons, hs, h3, hx, vl_zero, zero_mul', zero_add']
    · split at h
      · rename_i o1 ho1
        obtain ⟨k1, k2, k3⟩ := send_val ho1 ho fun p hp => by rw [hl]; exact hG i (by omega) p hp
        obtain ⟨h1, h2, h3⟩ := ap_val hG h (by omega) (k1.trans hl) k2
        refine ⟨h1, h2, fun j => ?_⟩
        rw [List.length_cons, hs, h3, k3, add_assoc']
      · cases h
theorem rep_ok' {n : Nat} : ∀ y ∈ List.replicate n Dw.zero, y.ok := fun y hy => by rw [List.eq_of_mem_replicate hy]; exact zero_ok
theorem rep_getD (n j : Nat) : (List.replicate n Dw.zero).getD j .zero = .zero := by
  rw [List.getD_eq_getElem?_getD, List.getElem?_replicate]
  split <;> rfl
/-- All amplitudes sent, from nothing on. -/
theorem ap_zero {G : Nat → List (Nat × Dw)} {v o : List Dw} (hG : ∀ i, i < v.length → ∀ p ∈ G i, p.1 < v.length ∧ p.2.e.toNat ≤ 1) (h : apO G 0 v (List.replicate v.length .zero) = some o) :
    o.length = v.length ∧ (∀ y ∈ o, y.ok) ∧ ∀ j, (vl (o.getD j .zero)).root = sumZ v.length fun a => (vl (v.getD a .zero)).mul (cf (G a) j) := by
  obtain ⟨h1, h2, h3⟩ := ap_val hG h (by omega) List.length_replicate rep_ok'
  refine ⟨h1, h2, fun j => ?_⟩
  rw [h3, rep_getD, vl_zero, show Zw.zero.root = .zero from rfl, zero_add']
  exact sumZ_congr fun a _ => by rw [Nat.zero_add]
theorem getD_ok {v : List Dw} (h : ∀ y ∈ v, y.ok) (j : Nat) : (v.getD j .zero).ok := by
  rw [List.getD_eq_getElem?_getD]
  cases e : v[j]? with
  | none => exact zero_ok
  | some y => exact h y (List.mem_of_getElem? e)
end Go.Proofs.Ytkcpemkahkkcmaa
namespace Go.Proofs.Ytkcpemkahkkcmaa
end Go.Proofs.Ytkcpemkahkkcmaa
