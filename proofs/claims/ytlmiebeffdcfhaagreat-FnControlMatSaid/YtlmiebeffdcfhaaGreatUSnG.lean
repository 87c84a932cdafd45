/- Where a gate sends an amplitude: the model's l10Goes. -/
import Derived.Test.YtlmiebeffdcfhaaGreatUBaseC06
import Derived.Test.YtlmiebeffdcfhaaGreatUBaseC08
import Derived.Test.YtlmiebeffdcfhaaGreatUGtB
import Derived.Test.YtlmiebeffdcfhaaGreatUBaseB06
import Derived.Test.YtlmiebeffdcfhaaGreatUDwN
namespace Go.Proofs.YtlmiebeffdcfhaaGreat
open Go.RowKit
def lowN (i q : Nat) : Nat := if bitN i q then flipN i q else i
theorem flip_all2 : ∀ i : Fin 16, ∀ q : Fin 4, bits .xor .i64 ((i.val : Nat) : Int) (IntKind.i64.wrap (2 ^ min (IntKind.u64.wrap ((q.val : Nat) : Int)).toNat 64)) = ((flipN i.val q.val : Nat) : Int) := by decide +kernel
theorem flip_bits2 {i q : Nat} (hi : i < 16) (hq : q < 4) : bits .xor .i64 (i : Int) (IntKind.i64.wrap (2 ^ min (IntKind.u64.wrap (q : Int)).toNat 64)) = ((flipN i q : Nat) : Int) := flip_all2 ⟨i, hi⟩ ⟨q, hq⟩
theorem flip_lt : ∀ i : Fin 16, ∀ q : Fin 4, flipN i.val q.val < 16 := by decide +kernel
theorem low_all : ∀ i : Fin 16, ∀ q : Fin 4, bits .andNot .i64 ((i.val : Nat) : Int) (wrap64 (2 ^ q.val)) = ((lowN i.val q.val : Nat) : Int) ∧ bits .or .i64 ((lowN i.val q.val : Nat) : Int) (wrap64 (2 ^ q.val)) = ((flipN (lowN i.val q.val) q.val : Nat) : Int) := by decide +kernel
theorem low_bits {i q : Nat} (hi : i < 16) (hq : q < 4) : bits .andNot .i64 (i : Int) (wrap64 (2 ^ q)) = ((lowN i q : Nat) : Int) ∧ bits .or .i64 ((lowN i q : Nat) : Int) (wrap64 (2 ^ q)) = ((flipN (lowN i q) q : Nat) : Int) := low_all ⟨i, hi⟩ ⟨q, hq⟩
theorem new_sent2 (w : World) (i j : Nat) (x y : Dw) : sentE.Sl (w.alloc (.cells #[.int .i64 (i : Int), .int .i64 x.n.a, .int .i64 x.n.b, .int .i64 x.n.c, .int .i64 x.n.d, .int .i64 x.e, .int .i64 (j : Int), .int .i64 y.n.a, .int .i64 y.n.b, .int .i64 y.n.c, .int .i64 y.n.d, .int .i64 y.e] 97)) w.heap.size (.slice (some ⟨w.heap.size, 0, none⟩) 2 2) [(i, x), (j, y)] :=
  Enc.Sl.mk rfl (Nat.le_refl _) (Nat.le_refl _) ⟨_, heap_alloc_new w _, rfl⟩
/-- Where a gate of kind k on A, B, C sends the amplitude at i, and with which factors. -/
def goesL (k : Int) (A B C i : Nat) : List (Nat × Dw) :=
  if k = 1 then [(if true then flipN i A else i, dPh 0)]
  else if k = 2 then [(flipN i A, dPh (if bitN i A then 6 else 2))]
  else if k = 3 then [(i, if bitN i A then dPh 4 else dPh 0)]
  else if k = 5 then [(i, if bitN i A then dPh 2 else dPh 0)]
  else if k = 6 then [(i, if bitN i A then dPh 6 else dPh 0)]
  else if k = 7 then [(i, if bitN i A then dPh 1 else dPh 0)]
  else if k = 8 then [(i, if bitN i A then dPh 7 else dPh 0)]
  else if k = 9 then [(if bitN i A then flipN i B else i, dPh 0)]
  else if k = 10 then [(i, if (bitN i A && bitN i B) then dPh 4 else dPh 0)]
  else if k = 12 then [(if (bitN i A && bitN i B) then flipN i C else i, dPh 0)]
  else if k = 11 then [(if bitN i A != bitN i B then flipN (flipN i A) B else i, dPh 0)]
  else [(lowN i A, isV 1), (flipN (lowN i A) A, if bitN i A then dNegV (isV 1) else isV 1)]
attribute [local irreducible] World.cell?
set_option maxRecDepth 100000 in
set_option maxHeartbeats 1600000 in
theorem sgoes3 (A B C i : Nat) (w : World) (hA : A < 4) (hB : B < 4) (_ : C < 4) (hi : i < 16) :
    Calls Tryz.prog 72 #[(.agg #[.int .i64 ((Gt.mk 3 A B C)).k, .int .i64 ((Gt.mk 3 A B C)).a, .int .i64 ((Gt.mk 3 A B C)).b, .int .i64 ((Gt.mk 3 A B C)).c]), .int .i64 i] w fun e w' => ∃ v, e = .returned v ∧ sentE.Sl w' w.heap.size v (goesL 3 A B C i) ∧ Below w.heap.size w w' := by
  have Hb0 := Lib.hid (show Below w.heap.size w (w.alloc (.cells #[.int .i64 ((Gt.mk 3 A B C)).k, .int .i64 ((Gt.mk 3 A B C)).a, .int .i64 ((Gt.mk 3 A B C)).b, .int .i64 ((Gt.mk 3 A B C)).c] 25)) by go_grown)
  have ba := bit_bits hi hA
  have bb := bit_bits hi hB
  have H := Lib.hid (fun W => sphas i (bitN i A) 4 W hi)
  rw [show goesL 3 A B C i = [(i, if bitN i A then dPh 4 else dPh 0)] from rfl]
  generalize [(i, if bitN i A then dPh 4 else dPh 0)] = L at *
  generalize bitN i A = a at *
  generalize bitN i B = b at *
  go_enter Tryz.func72, Tryz.ntmps72
  go_wp2_with fail
  refine (H.out _).mono ?_
  rintro e w1 ⟨v, rfl, hd, hb1⟩
  have Hd := Lib.hid (hd.mono (C := w.heap.size) (by simp))
  have Hb1 := Lib.hid (below_nx Hb0.out hb1)
  clear hd hb1
  go_wp2_with fail
  go_ret
  exact ⟨_, rfl, Hd.out, Hb1.out⟩
set_option maxRecDepth 100000 in
set_option maxHeartbeats 1600000 in
theorem sgoes5 (A B C i : Nat) (w : World) (hA : A < 4) (hB : B < 4) (_ : C < 4) (hi : i < 16) :
    Calls Tryz.prog 72 #[(.agg #[.int .i64 ((Gt.mk 5 A B C)).k, .int .i64 ((Gt.mk 5 A B C)).a, .int .i64 ((Gt.mk 5 A B C)).b, .int .i64 ((Gt.mk 5 A B C)).c]), .int .i64 i] w fun e w' => ∃ v, e = .returned v ∧ sentE.Sl w' w.heap.size v (goesL 5 A B C i) ∧ Below w.heap.size w w' := by
  have Hb0 := Lib.hid (show Below w.heap.size w (w.alloc (.cells #[.int .i64 ((Gt.mk 5 A B C)).k, .int .i64 ((Gt.mk 5 A B C)).a, .int .i64 ((Gt.mk 5 A B C)).b, .int .i64 ((Gt.mk 5 A B C)).c] 25)) by go_grown)
  have ba := bit_bits hi hA
  have bb := bit_bits hi hB
  have H := Lib.hid (fun W => sphas i (bitN i A) 2 W hi)
  rw [show goesL 5 A B C i = [(i, if bitN i A then dPh 2 else dPh 0)] from rfl]
  generalize [(i, if bitN i A then dPh 2 else dPh 0)] = L at *
  generalize bitN i A = a at *
  generalize bitN i B = b at *
  go_enter Tryz.func72, Tryz.ntmps72
  go_wp2_with fail
  refine (H.out _).mono ?_
  rintro e w1 ⟨v, rfl, hd, hb1⟩
  have Hd := Lib.hid (hd.mono (C := w.heap.size) (by simp))
  have Hb1 := Lib.hid (below_nx Hb0.out hb1)
  clear hd hb1
  go_wp2_with fail
  go_ret
  exact ⟨_, rfl, Hd.out, Hb1.out⟩
set_option maxRecDepth 100000 in
set_option maxHeartbeats 1600000 in
theorem sgoes6 (A B C i : Nat) (w : World) (hA : A < 4) (hB : B < 4) (_ : C < 4) (hi : i < 16) :
    Calls Tryz.prog 72 #[(.agg #[.int .i64 ((Gt.mk 6 A B C)).k, .int .i64 ((Gt.mk 6 A B C)).a, .int .i64 ((Gt.mk 6 A B C)).b, .int .i64 ((Gt.mk 6 A B C)).c]), .int .i64 i] w fun e w' => ∃ v, e = .returned v ∧ sentE.Sl w' w.heap.size v (goesL 6 A B C i) ∧ Below w.heap.size w w' := by
  have Hb0 := Lib.hid (show Below w.heap.size w (w.alloc (.cells #[.int .i64 ((Gt.mk 6 A B C)).k, .int .i64 ((Gt.mk 6 A B C)).a, .int .i64 ((Gt.mk 6 A B C)).b, .int .i64 ((Gt.mk 6 A B C)).c] 25)) by go_grown)
  have ba := bit_bits hi hA
  have bb := bit_bits hi hB
  have H := Lib.hid (fun W => sphas i (bitN i A) 6 W hi)
  rw [show goesL 6 A B C i = [(i, if bitN i A then dPh 6 else dPh 0)] from rfl]
  generalize [(i, if bitN i A then dPh 6 else dPh 0)] = L at *
  generalize bitN i A = a at *
  generalize bitN i B = b at *
  go_enter Tryz.func72, Tryz.ntmps72
  go_wp2_with fail
  refine (H.out _).mono ?_
  rintro e w1 ⟨v, rfl, hd, hb1⟩
  have Hd := Lib.hid (hd.mono (C := w.heap.size) (by simp))
  have Hb1 := Lib.hid (below_nx Hb0.out hb1)
  clear hd hb1
  go_wp2_with fail
  go_ret
  exact ⟨_, rfl, Hd.out, Hb1.out⟩
set_option maxRecDepth 100000 in
set_option maxHeartbeats 1600000 in
theorem sgoes7 (A B C i : Nat) (w : World) (hA : A < 4) (hB : B < 4) (_ : C < 4) (hi : i < 16) :
    Calls Tryz.prog 72 #[(.agg #[.int .i64 ((Gt.mk 7 A B C)).k, .int .i64 ((Gt.mk 7 A B C)).a, .int .i64 ((Gt.mk 7 A B C)).b, .int .i64 ((Gt.mk 7 A B C)).c]), .int .i64 i] w fun e w' => ∃ v, e = .returned v ∧ sentE.Sl w' w.heap.size v (goesL 7 A B C i) ∧ Below w.heap.size w w' := by
  have Hb0 := Lib.hid (show Below w.heap.size w (w.alloc (.cells #[.int .i64 ((Gt.mk 7 A B C)).k, .int .i64 ((Gt.mk 7 A B C)).a, .int .i64 ((Gt.mk 7 A B C)).b, .int .i64 ((Gt.mk 7 A B C)).c] 25)) by go_grown)
  have ba := bit_bits hi hA
  have bb := bit_bits hi hB
  have H := Lib.hid (fun W => sphas i (bitN i A) 1 W hi)
  rw [show goesL 7 A B C i = [(i, if bitN i A then dPh 1 else dPh 0)] from rfl]
  generalize [(i, if bitN i A then dPh 1 else dPh 0)] = L at *
  generalize bitN i A = a at *
  generalize bitN i B = b at *
  go_enter Tryz.func72, Tryz.ntmps72
  go_wp2_with fail
  refine (H.out _).mono ?_
  rintro e w1 ⟨v, rfl, hd, hb1⟩
  have Hd := Lib.hid (hd.mono (C := w.heap.size) (by simp))
  have Hb1 := Lib.hid (below_nx Hb0.out hb1)
  clear hd hb1
  go_wp2_with fail
  go_ret
  exact ⟨_, rfl, Hd.out, Hb1.out⟩
set_option maxRecDepth 100000 in
set_option maxHeartbeats 1600000 in
theorem sgoes8 (A B C i : Nat) (w : World) (hA : A < 4) (hB : B < 4) (_ : C < 4) (hi : i < 16) :
    Calls Tryz.prog 72 #[(.agg #[.int .i64 ((Gt.mk 8 A B C)).k, .int .i64 ((Gt.mk 8 A B C)).a, .int .i64 ((Gt.mk 8 A B C)).b, .int .i64 ((Gt.mk 8 A B C)).c]), .int .i64 i] w fun e w' => ∃ v, e = .returned v ∧ sentE.Sl w' w.heap.size v (goesL 8 A B C i) ∧ Below w.heap.size w w' := by
  have Hb0 := Lib.hid (show Below w.heap.size w (w.alloc (.cells #[.int .i64 ((Gt.mk 8 A B C)).k, .int .i64 ((Gt.mk 8 A B C)).a, .int .i64 ((Gt.mk 8 A B C)).b, .int .i64 ((Gt.mk 8 A B C)).c] 25)) by go_grown)
  have ba := bit_bits hi hA
  have bb := bit_bits hi hB
  have H := Lib.hid (fun W => sphas i (bitN i A) 7 W hi)
  rw [show goesL 8 A B C i = [(i, if bitN i A then dPh 7 else dPh 0)] from rfl]
  generalize [(i, if bitN i A then dPh 7 else dPh 0)] = L at *
  generalize bitN i A = a at *
  generalize bitN i B = b at *
  go_enter Tryz.func72, Tryz.ntmps72
  go_wp2_with fail
  refine (H.out _).mono ?_
  rintro e w1 ⟨v, rfl, hd, hb1⟩
  have Hd := Lib.hid (hd.mono (C := w.heap.size) (by simp))
  have Hb1 := Lib.hid (below_nx Hb0.out hb1)
  clear hd hb1
  go_wp2_with fail
  go_ret
  exact ⟨_, rfl, Hd.out, Hb1.out⟩
set_option maxRecDepth 100000 in
set_option maxHeartbeats 1600000 in
theorem sgoes1 (A B C i : Nat) (w : World) (hA : A < 4) (hB : B < 4) (_ : C < 4) (hi : i < 16) :
    Calls Tryz.prog 72 #[(.agg #[.int .i64 ((Gt.mk 1 A B C)).k, .int .i64 ((Gt.mk 1 A B C)).a, .int .i64 ((Gt.mk 1 A B C)).b, .int .i64 ((Gt.mk 1 A B C)).c]), .int .i64 i] w fun e w' => ∃ v, e = .returned v ∧ sentE.Sl w' w.heap.size v (goesL 1 A B C i) ∧ Below w.heap.size w w' := by
  have Hb0 := Lib.hid (show Below w.heap.size w (w.alloc (.cells #[.int .i64 ((Gt.mk 1 A B C)).k, .int .i64 ((Gt.mk 1 A B C)).a, .int .i64 ((Gt.mk 1 A B C)).b, .int .i64 ((Gt.mk 1 A B C)).c] 25)) by go_grown)
  have ba := bit_bits hi hA
  have bb := bit_bits hi hB
  have H := Lib.hid (fun W => sflip i A true W hi hA)
  rw [show goesL 1 A B C i = [(if true then flipN i A else i, dPh 0)] from rfl]
  generalize [(if true then flipN i A else i, dPh 0)] = L at *
  generalize bitN i A = a at *
  generalize bitN i B = b at *
  go_enter Tryz.func72, Tryz.ntmps72
  go_wp2_with fail
  refine (H.out _).mono ?_
  rintro e w1 ⟨v, rfl, hd, hb1⟩
  have Hd := Lib.hid (hd.mono (C := w.heap.size) (by simp))
  have Hb1 := Lib.hid (below_nx Hb0.out hb1)
  clear hd hb1
  go_wp2_with fail
  go_ret
  exact ⟨_, rfl, Hd.out, Hb1.out⟩
set_option maxRecDepth 100000 in
set_option maxHeartbeats 1600000 in
theorem sgoes9 (A B C i : Nat) (w : World) (hA : A < 4) (hB : B < 4) (_ : C < 4) (hi : i < 16) :
    Calls Tryz.prog 72 #[(.agg #[.int .i64 ((Gt.mk 9 A B C)).k, .int .i64 ((Gt.mk 9 A B C)).a, .int .i64 ((Gt.mk 9 A B C)).b, .int .i64 ((Gt.mk 9 A B C)).c]), .int .i64 i] w fun e w' => ∃ v, e = .returned v ∧ sentE.Sl w' w.heap.size v (goesL 9 A B C i) ∧ Below w.heap.size w w' := by
  have Hb0 := Lib.hid (show Below w.heap.size w (w.alloc (.cells #[.int .i64 ((Gt.mk 9 A B C)).k, .int .i64 ((Gt.mk 9 A B C)).a, .int .i64 ((Gt.mk 9 A B C)).b, .int .i64 ((Gt.mk 9 A B C)).c] 25)) by go_grown)
  have ba := bit_bits hi hA
  have bb := bit_bits hi hB
  have H := Lib.hid (fun W => sflip i B (bitN i A) W hi hB)
  rw [show goesL 9 A B C i = [(if bitN i A then flipN i B else i, dPh 0)] from rfl]
  generalize [(if bitN i A then flipN i B else i, dPh 0)] = L at *
  generalize bitN i A = a at *
  generalize bitN i B = b at *
  go_enter Tryz.func72, Tryz.ntmps72
  go_wp2_with fail
  refine (H.out _).mono ?_
  rintro e w1 ⟨v, rfl, hd, hb1⟩
  have Hd := Lib.hid (hd.mono (C := w.heap.size) (by simp))
  have Hb1 := Lib.hid (below_nx Hb0.out hb1)
  clear hd hb1
  go_wp2_with fail
  go_ret
  exact ⟨_, rfl, Hd.out, Hb1.out⟩
set_option maxRecDepth 100000 in
set_option maxHeartbeats 1600000 in
theorem sgoes10 (A B C i : Nat) (w : World) (hA : A < 4) (hB : B < 4) (_ : C < 4) (hi : i < 16) :
    Calls Tryz.prog 72 #[(.agg #[.int .i64 ((Gt.mk 10 A B C)).k, .int .i64 ((Gt.mk 10 A B C)).a, .int .i64 ((Gt.mk 10 A B C)).b, .int .i64 ((Gt.mk 10 A B C)).c]), .int .i64 i] w fun e w' => ∃ v, e = .returned v ∧ sentE.Sl w' w.heap.size v (goesL 10 A B C i) ∧ Below w.heap.size w w' := by
  have Hb0 := Lib.hid (show Below w.heap.size w (w.alloc (.cells #[.int .i64 ((Gt.mk 10 A B C)).k, .int .i64 ((Gt.mk 10 A B C)).a, .int .i64 ((Gt.mk 10 A B C)).b, .int .i64 ((Gt.mk 10 A B C)).c] 25)) by go_grown)
  have ba := bit_bits hi hA
  have bb := bit_bits hi hB
  have H := Lib.hid (fun W => sphas i (bitN i A && bitN i B) 4 W hi)
  rw [show goesL 10 A B C i = [(i, if (bitN i A && bitN i B) then dPh 4 else dPh 0)] from rfl]
  generalize [(i, if (bitN i A && bitN i B) then dPh 4 else dPh 0)] = L at *
  generalize bitN i A = a at *
  generalize bitN i B = b at *
  cases a
  · rw [Bool.false_and] at H
    go_enter Tryz.func72, Tryz.ntmps72
    go_wp2_with fail
    refine (H.out _).mono ?_
    rintro e w1 ⟨v, rfl, hd, hb1⟩
    have Hd := Lib.hid (hd.mono (C := w.heap.size) (by simp))
    have Hb1 := Lib.hid (below_nx Hb0.out hb1)
    clear hd hb1
    go_wp2_with fail
    go_ret
    exact ⟨_, rfl, Hd.out, Hb1.out⟩
  · rw [Bool.true_and] at H
    go_enter Tryz.func72, Tryz.ntmps72
    go_wp2_with fail
    refine (H.out _).mono ?_
    rintro e w1 ⟨v, rfl, hd, hb1⟩
    have Hd := Lib.hid (hd.mono (C := w.heap.size) (by simp))
    have Hb1 := Lib.hid (below_nx Hb0.out hb1)
    clear hd hb1
    go_wp2_with fail
    go_ret
    exact ⟨_, rfl, Hd.out, Hb1.out⟩
set_option maxRecDepth 100000 in
set_option maxHeartbeats 1600000 in
theorem sgoes12 (A B C i : Nat) (w : World) (hA : A < 4) (hB : B < 4) (hC : C < 4) (hi : i < 16) :
    Calls Tryz.prog 72 #[(.agg #[.int .i64 ((Gt.mk 12 A B C)).k, .int .i64 ((Gt.mk 12 A B C)).a, .int .i64 ((Gt.mk 12 A B C)).b, .int .i64 ((Gt.mk 12 A B C)).c]), .int .i64 i] w fun e w' => ∃ v, e = .returned v ∧ sentE.Sl w' w.heap.size v (goesL 12 A B C i) ∧ Below w.heap.size w w' := by
  have Hb0 := Lib.hid (show Below w.heap.size w (w.alloc (.cells #[.int .i64 ((Gt.mk 12 A B C)).k, .int .i64 ((Gt.mk 12 A B C)).a, .int .i64 ((Gt.mk 12 A B C)).b, .int .i64 ((Gt.mk 12 A B C)).c] 25)) by go_grown)
  have ba := bit_bits hi hA
  have bb := bit_bits hi hB
  have H := Lib.hid (fun W => sflip i C (bitN i A && bitN i B) W hi hC)
  rw [show goesL 12 A B C i = [(if (bitN i A && bitN i B) then flipN i C else i, dPh 0)] from rfl]
  generalize [(if (bitN i A && bitN i B) then flipN i C else i, dPh 0)] = L at *
  generalize bitN i A = a at *
  generalize bitN i B = b at *
  cases a
  · rw [Bool.false_and] at H
    go_enter Tryz.func72, Tryz.ntmps72
    go_wp2_with fail
    refine (H.out _).mono ?_
    rintro e w1 ⟨v, rfl, hd, hb1⟩
    have Hd := Lib.hid (hd.mono (C := w.heap.size) (by simp))
    have Hb1 := Lib.hid (below_nx Hb0.out hb1)
    clear hd hb1
    go_wp2_with fail
    go_ret
    exact ⟨_, rfl, Hd.out, Hb1.out⟩
  · rw [Bool.true_and] at H
    go_enter Tryz.func72, Tryz.ntmps72
    go_wp2_with fail
    refine (H.out _).mono ?_
    rintro e w1 ⟨v, rfl, hd, hb1⟩
    have Hd := Lib.hid (hd.mono (C := w.heap.size) (by simp))
    have Hb1 := Lib.hid (below_nx Hb0.out hb1)
    clear hd hb1
    go_wp2_with fail
    go_ret
    exact ⟨_, rfl, Hd.out, Hb1.out⟩
set_option maxRecDepth 100000 in
set_option maxHeartbeats 1600000 in
theorem sgoes11 (A B C i : Nat) (w : World) (hA : A < 4) (hB : B < 4) (_ : C < 4) (hi : i < 16) :
    Calls Tryz.prog 72 #[(.agg #[.int .i64 ((Gt.mk 11 A B C)).k, .int .i64 ((Gt.mk 11 A B C)).a, .int .i64 ((Gt.mk 11 A B C)).b, .int .i64 ((Gt.mk 11 A B C)).c]), .int .i64 i] w fun e w' => ∃ v, e = .returned v ∧ sentE.Sl w' w.heap.size v (goesL 11 A B C i) ∧ Below w.heap.size w w' := by
  have Hb0 := Lib.hid (show Below w.heap.size w (w.alloc (.cells #[.int .i64 ((Gt.mk 11 A B C)).k, .int .i64 ((Gt.mk 11 A B C)).a, .int .i64 ((Gt.mk 11 A B C)).b, .int .i64 ((Gt.mk 11 A B C)).c] 25)) by go_grown)
  have ba := bit_bits hi hA
  have bb := bit_bits hi hB
  have H := Lib.hid (fun W => sphase 0 W)
  have f1 := flip_bits hi hA
  have f2 := flip_bits (flip_lt ⟨i, hi⟩ ⟨A, hA⟩) hB
  simp only [] at f2
  rw [show goesL 11 A B C i = [(if bitN i A != bitN i B then flipN (flipN i A) B else i, dPh 0)] from rfl]
  generalize bitN i A = a at *
  generalize bitN i B = b at *
  generalize flipN (flipN i A) B = j at *
  generalize flipN i A = j1 at *
  generalize dPh 0 = P at *

  cases a
  · cases b
    · rw [show ((false : Bool) != false) = false from rfl]
      simp only [Bool.false_eq_true, if_false]
      go_enter Tryz.func72, Tryz.ntmps72
      go_wp2_with fail
      refine (H.out _).mono ?_
      rintro e w1 ⟨rfl, hb1⟩
      have Hs := Lib.hid ((new_sent w1 i P).mono (C := w.heap.size) (by have := hb1.size; simp at this; omega))
      have Hb1 := Lib.hid (below_nx Hb0.out hb1)
      have hs1 := Hb1.out.size
      clear hb1
      go_wp2_with fail
      go_ret
      exact ⟨_, rfl, Hs.out, by have := Hb1.out; go_grown⟩
    · rw [show ((false : Bool) != true) = true from rfl]
      simp only [if_true]
      go_enter Tryz.func72, Tryz.ntmps72
      go_wp2_with fail
      refine (H.out _).mono ?_
      rintro e w1 ⟨rfl, hb1⟩
      have Hs := Lib.hid ((new_sent w1 j P).mono (C := w.heap.size) (by have := hb1.size; simp at this; omega))
      have Hb1 := Lib.hid (below_nx Hb0.out hb1)
      have hs1 := Hb1.out.size
      clear hb1
      go_wp2_with fail
      go_ret
      exact ⟨_, rfl, Hs.out, by have := Hb1.out; go_grown⟩
  · cases b
    · rw [show ((true : Bool) != false) = true from rfl]
      simp only [if_true]
      go_enter Tryz.func72, Tryz.ntmps72
      go_wp2_with fail
      refine (H.out _).mono ?_
      rintro e w1 ⟨rfl, hb1⟩
      have Hs := Lib.hid ((new_sent w1 j P).mono (C := w.heap.size) (by have := hb1.size; simp at this; omega))
      have Hb1 := Lib.hid (below_nx Hb0.out hb1)
      have hs1 := Hb1.out.size
      clear hb1
      go_wp2_with fail
      go_ret
      exact ⟨_, rfl, Hs.out, by have := Hb1.out; go_grown⟩
    · rw [show ((true : Bool) != true) = false from rfl]
      simp only [Bool.false_eq_true, if_false]
      go_enter Tryz.func72, Tryz.ntmps72
      go_wp2_with fail
      refine (H.out _).mono ?_
      rintro e w1 ⟨rfl, hb1⟩
      have Hs := Lib.hid ((new_sent w1 i P).mono (C := w.heap.size) (by have := hb1.size; simp at this; omega))
      have Hb1 := Lib.hid (below_nx Hb0.out hb1)
      have hs1 := Hb1.out.size
      clear hb1
      go_wp2_with fail
      go_ret
      exact ⟨_, rfl, Hs.out, by have := Hb1.out; go_grown⟩
set_option maxRecDepth 100000 in
set_option maxHeartbeats 1600000 in
theorem sgoes2 (A B C i : Nat) (w : World) (hA : A < 4) (hB : B < 4) (_ : C < 4) (hi : i < 16) :
    Calls Tryz.prog 72 #[(.agg #[.int .i64 ((Gt.mk 2 A B C)).k, .int .i64 ((Gt.mk 2 A B C)).a, .int .i64 ((Gt.mk 2 A B C)).b, .int .i64 ((Gt.mk 2 A B C)).c]), .int .i64 i] w fun e w' => ∃ v, e = .returned v ∧ sentE.Sl w' w.heap.size v (goesL 2 A B C i) ∧ Below w.heap.size w w' := by
  have Hb0 := Lib.hid (show Below w.heap.size w (w.alloc (.cells #[.int .i64 ((Gt.mk 2 A B C)).k, .int .i64 ((Gt.mk 2 A B C)).a, .int .i64 ((Gt.mk 2 A B C)).b, .int .i64 ((Gt.mk 2 A B C)).c] 25)) by go_grown)
  have ba := bit_bits hi hA
  have bb := bit_bits hi hB
  have Hr0 := Lib.hid (heap_alloc_new w (.cells #[.int .i64 ((Gt.mk 2 A B C)).k, .int .i64 ((Gt.mk 2 A B C)).a, .int .i64 ((Gt.mk 2 A B C)).b, .int .i64 ((Gt.mk 2 A B C)).c] 25))
  have f1 := flip_bits2 hi hA
  rw [show goesL 2 A B C i = [(flipN i A, dPh (if bitN i A then 6 else 2))] from rfl]
  generalize bitN i A = a at *
  generalize bitN i B = b at *
  generalize flipN i A = j at *
  cases a
  · have H := Lib.hid (fun W => sphase 2 W)
    rw [show (if (false : Bool) then (6 : Int) else 2) = 2 from rfl]
    generalize dPh 2 = P at *
    go_enter Tryz.func72, Tryz.ntmps72
    go_upto_region 10 with fail
    go_region_with (first | (go_at_call 103; refine (H.out _).mono ?_; rintro e w1 ⟨rfl, hb1⟩; have hr0 := below_blk hb1 (lt_of_block Hr0.out) Hr0.out; have zg1 := lt_of_block hr0; obtain ⟨d0, d1, d2, d3⟩ := blk_cells hr0; have Hbl1 := Lib.hid (below_nx Hb0.out.drew hb1); have hsz1 := Hbl1.out.size; clear hb1 hr0))
    all_goals go_wp2_with fail
    all_goals
      go_ret
      refine ⟨_, rfl, ?_, by have := Hbl1.out; go_grown⟩
      first | exact (new_sent w1 j P).mono hsz1 | (rw [f1]; exact (new_sent w1 j P).mono hsz1)
  · have H := Lib.hid (fun W => sphase 6 W)
    rw [show (if (true : Bool) then (6 : Int) else 2) = 6 from rfl]
    generalize dPh 6 = P at *
    go_enter Tryz.func72, Tryz.ntmps72
    go_upto_region 10 with fail
    go_region_with (first | (go_at_call 103; refine (H.out _).mono ?_; rintro e w1 ⟨rfl, hb1⟩; have hr0 := below_blk hb1 (lt_of_block Hr0.out) Hr0.out; have zg1 := lt_of_block hr0; obtain ⟨d0, d1, d2, d3⟩ := blk_cells hr0; have Hbl1 := Lib.hid (below_nx Hb0.out.drew hb1); have hsz1 := Hbl1.out.size; clear hb1 hr0))
    all_goals go_wp2_with fail
    all_goals
      go_ret
      refine ⟨_, rfl, ?_, by have := Hbl1.out; go_grown⟩
      first | exact (new_sent w1 j P).mono hsz1 | (rw [f1]; exact (new_sent w1 j P).mono hsz1)
end Go.Proofs.YtlmiebeffdcfhaaGreat
