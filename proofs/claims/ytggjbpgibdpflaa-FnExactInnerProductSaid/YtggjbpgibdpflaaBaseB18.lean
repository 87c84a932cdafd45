/- BaseB18: several of our texts in one: DsP MtP DwR SnA Iv DwDraw2 VcM AdM VcP. -/
import Derived.Test.YtggjbpgibdpflaaBaseB04
import Derived.Test.YtggjbpgibdpflaaDwB
import Derived.Test.YtggjbpgibdpflaaDwA
import Derived.Test.YtggjbpgibdpflaaDwN
import Derived.Test.YtggjbpgibdpflaaBaseB20
import Derived.Test.YtggjbpgibdpflaaPhS
import Derived.Test.YtggjbpgibdpflaaDwDraw
namespace Go.Proofs.Ytggjbpgibdpflaa
open Go.RowKit
instance : DecidableEq Dw := fun x y => decidable_of_iff (eqDB x y = true) eqDB_iff
/-- The number of qubits of a state with n amplitudes, or 0. -/
def qc (n : Nat) : Int := if n = 2 then 1 else if n = 4 then 2 else if n = 8 then 3 else if n = 16 then 4 else 0
theorem qc_range (n : Nat) : 0 ≤ qc n ∧ qc n ≤ 4 := by unfold qc; repeat' split; all_goals omega
theorem qc_len {n : Nat} (h : 0 < qc n) : n = 2 ∨ n = 4 ∨ n = 8 ∨ n = 16 := by
  unfold qc at h
  repeat' split at h
  all_goals first | omega | simp_all
/-- IsValidState. -/
def stB (l : List Dw) : Bool := l.all okD && decide (0 < qc l.length)
theorem stB_iff {l : List Dw} : stB l = true ↔ (∀ x ∈ l, x.ok) ∧ 0 < qc l.length := by
  unfold stB
  rw [Bool.and_eq_true, List.all_eq_true, decide_eq_true_eq]
  exact ⟨fun h => ⟨fun x hx => okD_true.1 (h.1 x hx), h.2⟩, fun h => ⟨fun x hx => okD_true.2 (h.1 x hx), h.2⟩⟩
theorem stB_len {l : List Dw} (h : stB l = true) : l.length ≤ 16 := by have := qc_len (stB_iff.1 h).2; omega
/-- BasisState. -/
def basisL (n i : Int) : List Dw := if 1 ≤ n ∧ n ≤ 4 ∧ 0 ≤ i ∧ i ≤ 2 ^ n.toNat - 1 then (List.replicate (2 ^ n.toNat) .zero).set i.toNat oneD else []
/-- ScaleState. -/
def scaleB (l : List Dw) (x : Dw) : Bool := stB l && l.all fun y => dMulB y x
def scaleL (l : List Dw) (x : Dw) : List Dw := if scaleB l x then l.map fun y => dMulV y x else []
/-- AddStates. -/
def addSB (u v : List Dw) : Bool := stB u && stB v && decide (u.length = v.length) && (u.zip v).all fun p => dAddB p.1 p.2
def addSL (u v : List Dw) : List Dw := if addSB u v then (u.zip v).map fun p => dAddV p.1 p.2 else []
/-- InnerProduct, of the amplitudes in pairs, from a sum on. -/
def inn : Dw → List (Dw × Dw) → Option Dw
  | s, [] => some s
  | s, p :: r => if dMulB (dConjV p.1) p.2 && dAddB s (dMulV (dConjV p.1) p.2) then inn (dAddV s (dMulV (dConjV p.1) p.2)) r else none
def innO (u v : List Dw) : Option Dw := if stB u && stB v && decide (u.length = v.length) then inn .zero (u.zip v) else none
def innV (u v : List Dw) : Dw := (innO u v).getD .zero
def innB (u v : List Dw) : Bool := (innO u v).isSome
theorem addSL_len (u v : List Dw) : (addSL u v).length ≤ v.length := by
  unfold addSL
  split
  · rw [List.length_map, List.length_zip]; omega
  · exact Nat.zero_le _
theorem scaleL_len (l : List Dw) (x : Dw) : (scaleL l x).length ≤ l.length := by
  unfold scaleL
  split
  · rw [List.length_map]; exact Nat.le_refl _
  · exact Nat.zero_le _
end Go.Proofs.Ytggjbpgibdpflaa
namespace Go.Proofs.Ytggjbpgibdpflaa
open Go.RowKit
/-- IsValidMatrix. -/
def mtB (M : List (List Dw)) : Bool := decide (0 < M.length) && M.all fun r => decide (r.length = M.length) && stB r
theorem mtB_iff {M : List (List Dw)} : mtB M = true ↔ 0 < M.length ∧ ∀ r ∈ M, r.length = M.length ∧ stB r = true := by
  unfold mtB
  rw [Bool.and_eq_true, decide_eq_true_eq, List.all_eq_true]
  simp only [Bool.and_eq_true, decide_eq_true_eq]
theorem mtB_qc {M : List (List Dw)} (h : mtB M = true) : 0 < qc M.length := by
  obtain ⟨h0, h1⟩ := mtB_iff.1 h
  obtain ⟨e, s⟩ := h1 M[0] (List.getElem_mem h0)
  rw [← e]
  exact (stB_iff.1 s).2
theorem mtB_len {M : List (List Dw)} (h : mtB M = true) : M.length ≤ 16 := by have := qc_len (mtB_qc h); omega
theorem mtB_row {M : List (List Dw)} (h : mtB M = true) {j : Nat} {r : List Dw} (hr : M[j]? = some r) : r.length = M.length ∧ stB r = true := (mtB_iff.1 h).2 r (List.mem_of_getElem? hr)
/-- IdentityMatrix. -/
def idM (n : Int) : List (List Dw) := if 1 ≤ n ∧ n ≤ 4 then (List.range (2 ^ n.toNat)).map fun (i : Nat) => basisL n (i : Int) else []
/-- The sum of a row and a state, from a sum on. -/
def mrow : Dw → List (Dw × Dw) → Option Dw
  | s, [] => some s
  | s, p :: r => if p.1 = .zero ∨ p.2 = .zero then mrow s r else if dMulB p.1 p.2 && dAddB s (dMulV p.1 p.2) then mrow (dAddV s (dMulV p.1 p.2)) r else none
def rowO (r v : List Dw) : Option Dw := mrow .zero (r.zip v)
def rowV (r v : List Dw) : Dw := (rowO r v).getD .zero
def rowB (r v : List Dw) : Bool := (rowO r v).isSome
/-- ApplyMatrix. -/
def appB (M : List (List Dw)) (v : List Dw) : Bool := mtB M && stB v && decide (M.length = v.length) && M.all fun r => rowB r v
def appL (M : List (List Dw)) (v : List Dw) : List Dw := if appB M v then M.map fun r => rowV r v else []
theorem appL_len {M : List (List Dw)} {v : List Dw} (h : appB M v = true) : (appL M v).length = M.length := by rw [appL, if_pos h, List.length_map]
/-- Columns. -/
def col (M : List (List Dw)) (k : Nat) : List Dw := M.map fun r => r.getD k .zero
def colsM (L : List (List Dw)) : List (List Dw) := (List.range L.length).map fun i => col L i
theorem col_len (M : List (List Dw)) (k : Nat) : (col M k).length = M.length := by rw [col, List.length_map]
theorem colsM_len (L : List (List Dw)) : (colsM L).length = L.length := by rw [colsM, List.length_map, List.length_range]
/-- MulMatrix. -/
def mulMB (A B : List (List Dw)) : Bool := mtB A && mtB B && decide (A.length = B.length) && (List.range B.length).all fun k => appB A (col B k)
def mulML (A B : List (List Dw)) : List (List Dw) := (List.range B.length).map fun k => appL A (col B k)
def mulM (A B : List (List Dw)) : List (List Dw) := if mulMB A B then colsM (mulML A B) else []
/-- AdjointMatrix. -/
def adjM (M : List (List Dw)) : List (List Dw) := if mtB M then (List.range M.length).map fun i => (col M i).map dConjV else []
/-- IsUnitary. -/
def uniB (M : List (List Dw)) : Bool := mtB M && mulMB (adjM M) M && decide (mulM (adjM M) M = idM (qc M.length))
/-- GlobalPhase. -/
def gpAt (A B : List (List Dw)) (i : Nat) : Bool := (A.zip B).all fun p => scaleB p.2 (dPh (i : Int)) && decide (scaleL p.2 (dPh (i : Int)) = p.1)
def gpF (A B : List (List Dw)) : Option Nat := if mtB A && mtB B && decide (A.length = B.length) then (List.range 8).find? (gpAt A B) else none
def gpB (A B : List (List Dw)) : Bool := (gpF A B).isSome
def gpV (A B : List (List Dw)) : Int := ((gpF A B).getD 0 : Nat)
end Go.Proofs.Ytggjbpgibdpflaa
namespace Go.Proofs.Ytggjbpgibdpflaa
def EB (x : Dw) : Prop := -9223372036854775808 ≤ x.e ∧ x.e ≤ 9223372036854775807
theorem eb_ok {x : Dw} (h : x.ok) : EB x := by have := h.2; unfold EB; omega
theorem eb_zero : EB .zero := ⟨(by decide : (-9223372036854775808 : Int) ≤ 0), (by decide : (0 : Int) ≤ 9223372036854775807)⟩
theorem eb_add (x y : Dw) : EB (dAddV x y) := by
  cases h : dAddB x y
  · rw [dAddV_no h]; exact eb_zero
  · exact eb_ok (dAddV_ok h)
theorem eb_mul (x y : Dw) : EB (dMulV x y) := by
  cases h : dMulB x y
  · rw [dMulV_no h]; exact eb_zero
  · exact eb_ok (dMulV_ok h)
theorem eb_new (n : Zw) (k : Int) : EB (newV n k) := by
  cases h : newB n k
  · rw [show newV n k = .zero from if_neg (by simp [h])]; exact eb_zero
  · exact eb_ok (newV_ok h)
theorem eb_neg (x : Dw) : EB (dNegV x) := by
  by_cases h : x.ok
  · rw [show dNegV x = x.neg from if_pos h]; exact eb_ok (dneg_ok.2 h)
  · rw [dNeg_no h]; exact eb_zero
theorem eb_conj (x : Dw) : EB (dConjV x) := by
  by_cases h : x.ok
  · rw [show dConjV x = x.conj from if_pos h]; exact eb_ok (dconj_ok.2 h)
  · rw [dConj_no h]; exact eb_zero
theorem eb_one : EB oneD := eb_ok oneD_ok
/-- A reduced fraction times the root of 2, over the root of 2 once more. -/
theorem new_up {n : Zw} {k : Int} (h : newB n k = true) (hm : mulB n rootE = true) (hk : k < 120) : newB (mulV n rootE) (k + 1) = true ∧ newV (mulV n rootE) (k + 1) = newV n k := by
  obtain ⟨h1, h2, h3, h4⟩ := newB_iff.1 h
  obtain ⟨m1, m2, m3⟩ := mulB_iff.1 hm
  have hv : mulV n rootE = n.root := by rw [mulV, if_pos ⟨m1, m2, m3⟩, mul_rootE]
  have hr := root_back hm
  rw [hv] at hr ⊢
  have e : (k + 1).toNat = k.toNat + 1 := by omega
  have hred : red (k + 1).toNat n.root = red k.toNat n := by rw [e, red, if_pos hr.1, hr.2]
  have hro : n.root.ok := by rw [mul_rootE] at m3; exact m3
  have hb : newB n.root (k + 1) = true := newB_iff.2 ⟨hro, by omega, by omega, by rw [hred]; exact h4⟩
  exact ⟨hb, by rw [newV_of hb, newV_of h, hred]⟩
end Go.Proofs.Ytggjbpgibdpflaa
namespace Go.Proofs.Ytggjbpgibdpflaa
open Go.RowKit
/-- A place and a factor, six cells. -/
def sentE : Enc (Nat × Dw) := ⟨fun p => .int .i64 (p.1 : Int) :: fl p.2, 6, 151, fun _ => rfl, fun x u h => by
  rw [List.mem_cons] at h
  rcases h with rfl | h
  · rfl
  · simp [fl] at h; rcases h with rfl | rfl | rfl | rfl | rfl <;> rfl⟩
/-- A bit turned over. -/
def flipN (i q : Nat) : Nat := i ^^^ (1 <<< q)
theorem flip_all : ∀ i : Fin 16, ∀ q : Fin 4, bits .xor .i64 ((i.val : Nat) : Int) (wrap64 (2 ^ q.val)) = ((flipN i.val q.val : Nat) : Int) := by decide +kernel
theorem flip_bits {i q : Nat} (hi : i < 16) (hq : q < 4) : bits .xor .i64 (i : Int) (wrap64 (2 ^ q)) = ((flipN i q : Nat) : Int) := flip_all ⟨i, hi⟩ ⟨q, hq⟩
theorem new_sent (w : World) (i : Nat) (x : Dw) : sentE.Sl (w.alloc (.cells #[.int .i64 (i : Int), .int .i64 x.n.a, .int .i64 x.n.b, .int .i64 x.n.c, .int .i64 x.n.d, .int .i64 x.e] 151)) w.heap.size (.slice (some ⟨w.heap.size, 0, none⟩) 1 1) [(i, x)] :=
  Enc.Sl.mk rfl (Nat.le_refl _) (Nat.le_refl _) ⟨_, heap_alloc_new w _, rfl⟩
attribute [local irreducible] World.cell?
set_option maxRecDepth 100000 in
set_option maxHeartbeats 1600000 in
theorem sflip (i q : Nat) (t : Bool) (w : World) (hi : i < 16) (hq : q < 4) :
    Calls Try.prog 154 #[.int .i64 i, .int .i64 q, .bool t] w fun e w' => ∃ v, e = .returned v ∧ sentE.Sl w' w.heap.size v [(if t then flipN i q else i, dPh 0)] ∧ Below w.heap.size w w' := by
  have H := Lib.hid (fun W => sphase 0 W)
  generalize dPh 0 = P at *
  cases t with
  | true =>
    have hf := flip_bits hi hq
    generalize flipN i q = f at *
    go_enter Try.func154, Try.ntmps154
    go_wp2_with fail
    refine (H.out _).mono ?_
    rintro e w1 ⟨rfl, hb1⟩
    have Hs := Lib.hid ((new_sent w1 f P).mono hb1.size)
    have Hb1 := Lib.hid hb1
    have hs1 := hb1.size
    clear hb1
    go_wp2_with fail
    go_ret
    exact ⟨_, rfl, Hs.out, by have := Hb1.out; go_grown⟩
  | false =>
    go_enter Try.func154, Try.ntmps154
    go_wp2_with fail
    refine (H.out _).mono ?_
    rintro e w1 ⟨rfl, hb1⟩
    have Hs := Lib.hid ((new_sent w1 i P).mono hb1.size)
    have Hb1 := Lib.hid hb1
    have hs1 := hb1.size
    clear hb1
    go_wp2_with fail
    go_ret
    exact ⟨_, rfl, Hs.out, by have := Hb1.out; go_grown⟩
set_option maxRecDepth 100000 in
set_option maxHeartbeats 1600000 in
theorem sphas (i : Nat) (t : Bool) (k : Int) (w : World) (_ : i < 16) :
    Calls Try.prog 155 #[.int .i64 i, .bool t, .int .i64 k] w fun e w' => ∃ v, e = .returned v ∧ sentE.Sl w' w.heap.size v [(i, if t then dPh k else dPh 0)] ∧ Below w.heap.size w w' := by
  have H := Lib.hid (fun W => sphase k W)
  have H0 := Lib.hid (fun W => sphase 0 W)
  generalize dPh k = P at *
  generalize dPh 0 = O at *
  cases t with
  | true =>
    go_enter Try.func155, Try.ntmps155
    go_wp2_with fail
    refine (H.out _).mono ?_
    rintro e w1 ⟨rfl, hb1⟩
    have Hs := Lib.hid ((new_sent w1 i P).mono hb1.size)
    have Hb1 := Lib.hid hb1
    have hs1 := hb1.size
    clear hb1
    go_wp2_with fail
    go_ret
    exact ⟨_, rfl, Hs.out, by have := Hb1.out; go_grown⟩
  | false =>
    go_enter Try.func155, Try.ntmps155
    go_wp2_with fail
    refine (H0.out _).mono ?_
    rintro e w1 ⟨rfl, hb1⟩
    have Hs := Lib.hid ((new_sent w1 i O).mono hb1.size)
    have Hb1 := Lib.hid hb1
    have hs1 := hb1.size
    clear hb1
    go_wp2_with fail
    go_ret
    exact ⟨_, rfl, Hs.out, by have := Hb1.out; go_grown⟩
end Go.Proofs.Ytggjbpgibdpflaa
namespace Go.Proofs.Ytggjbpgibdpflaa
open Go.RowKit
/-- 1 over the k-th power of the root of 2, or zero past the limits. -/
def isV (k : Int) : Dw := if 0 ≤ k ∧ k ≤ 60 then ⟨⟨1, 0, 0, 0⟩, k⟩ else .zero
theorem isV_new (k : Int) : newV ⟨1, 0, 0, 0⟩ k = isV k := by
  have hd : divB ⟨1, 0, 0, 0⟩ = false := by decide
  have hr : ∀ n : Nat, red n ⟨1, 0, 0, 0⟩ = (⟨1, 0, 0, 0⟩, n) := by
    intro n
    cases n with
    | zero => rfl
    | succ n => unfold red; rw [hd]; rfl
  by_cases h : 0 ≤ k ∧ k ≤ 60
  · have hb : newB ⟨1, 0, 0, 0⟩ k = true := newB_iff.2 ⟨by decide, h.1, by omega, by rw [hr]; show k.toNat ≤ 60; omega⟩
    rw [newV_of hb, hr, show isV k = ⟨⟨1, 0, 0, 0⟩, k⟩ from if_pos h]
    simp only [Dw.mk.injEq, true_and]
    omega
  · have hb : newB ⟨1, 0, 0, 0⟩ k = false := by
      rw [Bool.eq_false_iff]
      intro hb
      obtain ⟨_, h0, h1, h2⟩ := newB_iff.1 hb
      rw [hr] at h2
      exact h ⟨h0, by have : k.toNat ≤ 60 := h2; omega⟩
    rw [show isV k = .zero from if_neg h, newV, if_neg (by rw [hb]; decide)]
attribute [local irreducible] World.cell?
set_option maxRecDepth 100000 in
set_option maxHeartbeats 800000 in
theorem sinv (k : Int) (w : World) :
    Calls Try.prog 156 #[.int .i64 k] w fun e w' => e = .returned (.agg #[.int .i64 (isV k).n.a, .int .i64 (isV k).n.b, .int .i64 (isV k).n.c, .int .i64 (isV k).n.d, .int .i64 (isV k).e]) ∧ Below w.heap.size w w' := by
  have Hi := Lib.hid (fun w => lin_any k 0 60 (decide (0 ≤ k ∧ k ≤ 60)) w rfl)
  by_cases h : 0 ≤ k ∧ k ≤ 60
  · rw [decide_eq_true h] at Hi
    rw [show isV k = ⟨⟨1, 0, 0, 0⟩, k⟩ from if_pos h]
    clear h
    go_enter Try.func156, Try.ntmps156
    go_wp2_with fail
    refine (Hi.out _).mono ?_
    rintro e wx ⟨rfl, rfl⟩
    go_wp2_with fail
    refine bodyPost_ret (v := (.agg #[.int .i64 (Dw.mk ⟨1, 0, 0, 0⟩ k).n.a, .int .i64 (Dw.mk ⟨1, 0, 0, 0⟩ k).n.b, .int .i64 (Dw.mk ⟨1, 0, 0, 0⟩ k).n.c, .int .i64 (Dw.mk ⟨1, 0, 0, 0⟩ k).n.d, .int .i64 (Dw.mk ⟨1, 0, 0, 0⟩ k).e])) (by simp [results, Try.results156, go_sem]) rfl ⟨rfl, ?_⟩
    go_grown
  · rw [decide_eq_false h] at Hi
    rw [show isV k = .zero from if_neg h]
    clear h
    go_enter Try.func156, Try.ntmps156
    go_wp2_with fail
    refine (Hi.out _).mono ?_
    rintro e wx ⟨rfl, rfl⟩
    go_wp2_with fail
    refine bodyPost_ret (v := (.agg #[.int .i64 Dw.zero.n.a, .int .i64 Dw.zero.n.b, .int .i64 Dw.zero.n.c, .int .i64 Dw.zero.n.d, .int .i64 Dw.zero.e])) (by simp [results, Try.results156, go_sem, Dw.zero, Zw.zero]) rfl ⟨rfl, ?_⟩
    go_grown
end Go.Proofs.Ytggjbpgibdpflaa
namespace Go.Proofs.Ytggjbpgibdpflaa
open Go.RowKit
attribute [local irreducible] World.cell?
def D2Ret (e : Ending) : Prop := ∃ x y : Dw, e = .returned (.tuple #[(.agg #[.int .i64 x.n.a, .int .i64 x.n.b, .int .i64 x.n.c, .int .i64 x.n.d, .int .i64 x.e]), (.agg #[.int .i64 y.n.a, .int .i64 y.n.b, .int .i64 y.n.c, .int .i64 y.n.d, .int .i64 y.e])]) ∧ (-9223372036854775808 ≤ x.e ∧ x.e ≤ 9223372036854775807) ∧ -9223372036854775808 ≤ y.e ∧ y.e ≤ 9223372036854775807
theorem d2ret (x y : Dw) (h0 : -9223372036854775808 ≤ x.e) (h1 : x.e ≤ 9223372036854775807) (g0 : -9223372036854775808 ≤ y.e) (g1 : y.e ≤ 9223372036854775807) : D2Ret (.returned (.tuple #[(.agg #[.int .i64 x.n.a, .int .i64 x.n.b, .int .i64 x.n.c, .int .i64 x.n.d, .int .i64 x.e]), (.agg #[.int .i64 y.n.a, .int .i64 y.n.b, .int .i64 y.n.c, .int .i64 y.n.d, .int .i64 y.e])])) := ⟨x, y, rfl, ⟨h0, h1⟩, g0, g1⟩
def ZIRet (e : Ending) : Prop := ∃ (x : Zw) (k : Int), e = .returned (.tuple #[(.agg #[.int .i64 x.a, .int .i64 x.b, .int .i64 x.c, .int .i64 x.d]), .int .i64 k]) ∧ -1 ≤ k ∧ k ≤ 121
theorem ziret (x : Zw) (k : Int) (h0 : -1 ≤ k) (h1 : k ≤ 121) : ZIRet (.returned (.tuple #[(.agg #[.int .i64 x.a, .int .i64 x.b, .int .i64 x.c, .int .i64 x.d]), .int .i64 k])) := ⟨x, k, rfl, h0, h1⟩
end Go.Proofs.Ytggjbpgibdpflaa
namespace Go.Proofs.Ytggjbpgibdpflaa
theorem conj_addZ (x y : Zw) : (x.add y).conj = x.conj.add y.conj := by
  obtain ⟨a, b, c, d⟩ := x
  obtain ⟨p, q, r, s⟩ := y
  simp only [Zw.conj, Zw.add, Zw.mk.injEq]
  refine ⟨?_, ?_, ?_, ?_⟩ <;> first | trivial | omega
theorem dconj_conj {x : Dw} (h : x.ok) : dConjV (dConjV x) = x := by
  rw [show dConjV x = x.conj from if_pos h, show dConjV x.conj = x.conj.conj from if_pos (dconj_ok.2 h)]
  obtain ⟨⟨a, b, c, d⟩, e⟩ := x
  simp [Dw.conj, Zw.conj]
theorem conjV_ok {x : Dw} (h : x.ok) : (dConjV x).ok := by rw [show dConjV x = x.conj from if_pos h]; exact dconj_ok.2 h
theorem dconj_add {x y : Dw} (h : dAddB x y = true) (k : dAddB (dConjV x) (dConjV y) = true) : dAddV (dConjV x) (dConjV y) = dConjV (dAddV x y) := by
  have hx := (dAddB_iff.1 h).1
  have hy := (dAddB_iff.1 h).2.1
  have hs := dAddV_ok h
  have hk := dAddV_ok k
  have a1 := adds_of h
  have a2 := adds_of k
  rw [show dConjV x = x.conj from if_pos hx, show dConjV y = y.conj from if_pos hy] at a2 hk ⊢
  rw [show dConjV (dAddV x y) = (dAddV x y).conj from if_pos hs]
  refine unique hk (dconj_ok.2 hs) ?_
  generalize dAddV x.conj y.conj = r' at *
  generalize dAddV x y = r at *
  unfold Adds at a1 a2
  have a2 : rootN (x.e.toNat + y.e.toNat) r'.n = rootN r'.e.toNat ((rootN y.e.toNat x.n.conj).add (rootN x.e.toNat y.n.conj)) := a2
  show rootN r.e.toNat r'.n = rootN r'.e.toNat r.n.conj
  apply rootN_inj (k := x.e.toNat + y.e.toNat)
  rw [rootN_comm, a2, rootN_comm (x.e.toNat + y.e.toNat) r'.e.toNat, rootN_conj (x.e.toNat + y.e.toNat) r.n, a1, rootN_conj, rootN_conj, ← conj_addZ, rootN_comm r.e.toNat, rootN_conj]
theorem inn_conj : ∀ (l : List (Dw × Dw)) (s r r' : Dw), (∀ p ∈ l, p.1.ok ∧ p.2.ok) → s.ok → inn s l = some r → inn (dConjV s) (l.map fun p => (p.2, p.1)) = some r' → r' = dConjV r
  | [], s, r, r', _, _, h, h' => by
    simp [inn] at h h'
    rw [← h, ← h']
  | p :: l, s, r, r', hp, hs, h, h' => by
    obtain ⟨p1, p2⟩ := p
    have ⟨ok1, ok2⟩ := hp (p1, p2) (by simp)
    simp only [List.map_cons, inn] at h h'
    split at h
    · split at h'
      · rename_i c1 c2
        rw [Bool.and_eq_true] at c1 c2
        simp only [] at c1 c2 ok1 ok2
        have e : dMulV (dConjV p2) p1 = dConjV (dMulV (dConjV p1) p2) := by
          have := dconj_hom c1.1
          rw [dconj_conj ok1] at this
          rw [← this.2, dMulV_comm]
        rw [e] at c2 h'
        have e2 := dconj_add c1.2 c2.2
        rw [e2] at h'
        exact inn_conj l _ r r' (fun q hq => hp q (List.mem_cons_of_mem _ hq)) (dAddV_ok c1.2) h h'
      · cases h'
    · cases h
theorem inn_ok : ∀ (l : List (Dw × Dw)) (s r : Dw), s.ok → inn s l = some r → r.ok
  | [], s, r, hs, h => by
    simp [inn] at h
    rw [← h]; exact hs
  | p :: l, s, r, hs, h => by
    rw [inn] at h
    split at h
    · rename_i c
      rw [Bool.and_eq_true] at c
      exact inn_ok l _ r (dAddV_ok c.2) h
    · cases h
theorem innV_eb (a b : List Dw) : -9223372036854775808 ≤ (innV a b).e ∧ (innV a b).e ≤ 9223372036854775807 := by
  unfold innV
  cases h : innO a b with
  | none => exact ⟨by decide, by decide⟩
  | some r =>
    unfold innO at h
    split at h
    · have := (inn_ok _ _ _ (by decide) h).2
      show -9223372036854775808 ≤ r.e ∧ r.e ≤ 9223372036854775807
      omega
    · cases h
theorem zip_swap : ∀ (a b : List Dw), (a.zip b).map (fun p => (p.2, p.1)) = b.zip a
  | [], [] => rfl
  | [], _ :: _ => rfl
  | _ :: _, [] => rfl
  | x :: a, y :: b => by simp [zip_swap a b]
theorem inn_sym {a b : List Dw} (h : innB a b = true) (h' : innB b a = true) : dConjV (innV a b) = innV b a := by
  unfold innB at h h'
  unfold innV
  obtain ⟨r, hr⟩ := Option.isSome_iff_exists.1 h
  obtain ⟨r', hr'⟩ := Option.isSome_iff_exists.1 h'
  rw [hr, hr']
  unfold innO at hr hr'
  split at hr
  · rename_i c
    split at hr'
    · rw [Bool.and_eq_true, Bool.and_eq_true] at c
      have oka := (stB_iff.1 c.1.1).1
      have okb := (stB_iff.1 c.1.2).1
      have hz : dConjV .zero = .zero := by decide
      rw [← zip_swap a b, ← hz] at hr'
      exact (inn_conj (a.zip b) .zero r r' (fun p hp => ⟨oka _ (List.of_mem_zip hp).1, okb _ (List.of_mem_zip hp).2⟩) (by decide) hr hr').symm
    · cases hr'
  · cases hr
theorem zip_all (a b : List Dw) (p : Dw → Dw → Bool) (h : ∀ x y, p y x = p x y) : ((b.zip a).all fun q => p q.1 q.2) = (a.zip b).all fun q => p q.1 q.2 := by
  rw [← zip_swap a b, List.all_map]
  congr 1
  funext q
  exact h _ _
theorem addS_comm (a b : List Dw) : addSB b a = addSB a b ∧ addSL b a = addSL a b := by
  have hB : addSB b a = addSB a b := by
    unfold addSB
    rw [zip_all a b dAddB (fun x y => dAddB_comm x y), Bool.and_comm (stB b)]
    congr 2
    simp [eq_comm]
  refine ⟨hB, ?_⟩
  unfold addSL
  rw [hB]
  split
  · rw [← zip_swap a b, List.map_map]
    congr 1
    funext q
    exact dAddV_comm _ _
  · rfl
end Go.Proofs.Ytggjbpgibdpflaa
namespace Go.Proofs.Ytggjbpgibdpflaa
theorem list_range {α : Type} (l : List α) (d : α) : (List.range l.length).map (fun i => l.getD i d) = l := by
  refine List.ext_getElem? fun i => ?_
  rw [List.getElem?_map]
  by_cases h : i < l.length
  · rw [List.getElem?_range h, List.getElem?_eq_getElem h]
    show some (l.getD i d) = _
    rw [List.getD_eq_getElem?_getD, List.getElem?_eq_getElem h]; rfl
  · rw [List.getElem?_eq_none (by simpa using h), List.getElem?_eq_none (by omega)]; rfl
theorem mul_parts {A B : List (List Dw)} (h : mulMB A B = true) : mtB A = true ∧ mtB B = true ∧ A.length = B.length ∧ ∀ k, k < B.length → appB A (col B k) = true := by
  unfold mulMB at h
  simp only [Bool.and_eq_true, decide_eq_true_eq, List.all_eq_true] at h
  exact ⟨h.1.1.1, h.1.1.2, h.1.2, fun k hk => h.2 k (List.mem_range.2 hk)⟩
/-- The entries of a product. -/
theorem mulM_eq {A B : List (List Dw)} (h : mulMB A B = true) : mulM A B = (List.range A.length).map fun i => (List.range A.length).map fun k => rowV (A.getD i []) (col B k) := by
  obtain ⟨_, _, hl, hall⟩ := mul_parts h
  unfold mulM
  rw [if_pos h]
  unfold colsM mulML
  rw [List.length_map, List.length_range, ← hl]
  refine List.map_congr_left fun i hi => ?_
  have hi := List.mem_range.1 hi
  rw [col, List.map_map]
  refine List.map_congr_left fun k hk => ?_
  have hk := List.mem_range.1 hk
  show (appL A (col B k)).getD i .zero = rowV (A.getD i []) (col B k)
  unfold appL
  rw [if_pos (hall k (by omega)), List.getD_eq_getElem?_getD, List.getElem?_map, List.getElem?_eq_getElem hi, List.getD_eq_getElem?_getD, List.getElem?_eq_getElem hi]
  rfl
theorem cj_zero {x : Dw} (h : x.ok) : dConjV x = .zero ↔ x = .zero := by
  constructor
  · intro e; rw [← dconj_conj h, e]; rfl
  · rintro rfl; rfl
/-- A row's sum, and the conjugates' in the other order. -/
theorem mrow_conj : ∀ (l : List (Dw × Dw)) (s r r' : Dw), (∀ p ∈ l, p.1.ok ∧ p.2.ok) → s.ok → mrow s l = some r → mrow (dConjV s) (l.map fun p => (dConjV p.2, dConjV p.1)) = some r' → r' = dConjV r ∧ r.ok
  | [], s, r, r', _, hs, h, h' => by
    injection h with h
    injection h' with h'
    subst h h'
    exact ⟨rfl, hs⟩
  | p :: l, s, r, r', hl, hs, h, h' => by
    obtain ⟨h1, h2⟩ := hl p List.mem_cons_self
    have hl2 := fun q hq => hl q (List.mem_cons_of_mem p hq)
    rw [List.map_cons, mrow] at h'
    rw [mrow] at h
    by_cases hz : p.1 = .zero ∨ p.2 = .zero
    · rw [if_pos hz] at h
      rw [if_pos (show dConjV p.2 = .zero ∨ dConjV p.1 = .zero from hz.elim (fun e => .inr ((cj_zero h1).2 e)) (fun e => .inl ((cj_zero h2).2 e)))] at h'
      exact mrow_conj l s r r' hl2 hs h h'
    · rw [if_neg hz] at h
      rw [if_neg (show ¬(dConjV p.2 = .zero ∨ dConjV p.1 = .zero) from fun e => hz (e.elim (fun e => .inr ((cj_zero h2).1 e)) (fun e => .inl ((cj_zero h1).1 e))))] at h'
      split at h
      · rename_i hb
        rw [Bool.and_eq_true] at hb
        split at h'
        · rename_i hb'
          rw [Bool.and_eq_true] at hb'
          have hm : dMulV (dConjV p.2) (dConjV p.1) = dConjV (dMulV p.1 p.2) := by
            rw [dMulV_comm (dConjV p.1) (dConjV p.2)]
            exact (dconj_hom hb.1).2
          simp only [hm] at h' hb'
          rw [dconj_add hb.2 hb'.2] at h'
          exact mrow_conj l _ r r' hl2 (dAddV_ok hb.2) h h'
        · cases h'
      · cases h
theorem zip_conj : ∀ (a c : List Dw), (c.map dConjV).zip (a.map dConjV) = (a.zip c).map fun p => (dConjV p.2, dConjV p.1)
  | [], c => by simp
  | x :: a, [] => by simp
  | x :: a, y :: c => by
    rw [List.map_cons, List.map_cons, List.zip_cons_cons, zip_conj a c, List.zip_cons_cons, List.map_cons]
theorem row_conj {a c : List Dw} (ha : ∀ x ∈ a, x.ok) (hc : ∀ x ∈ c, x.ok) (h : rowB a c = true) (h' : rowB (c.map dConjV) (a.map dConjV) = true) : rowV (c.map dConjV) (a.map dConjV) = dConjV (rowV a c) ∧ (rowV a c).ok := by
  unfold rowB at h h'
  unfold rowV
  cases e : rowO a c with
  | none => rw [e] at h; cases h
  | some r =>
    cases e' : rowO (c.map dConjV) (a.map dConjV) with
    | none => rw [e'] at h'; cases h'
    | some r' =>
      unfold rowO at e e'
      rw [zip_conj] at e'
      exact mrow_conj (a.zip c) .zero r r' (fun p hp => ⟨ha _ (List.of_mem_zip hp).1, hc _ (List.of_mem_zip hp).2⟩) (by decide) e e'
end Go.Proofs.Ytggjbpgibdpflaa
namespace Go.Proofs.Ytggjbpgibdpflaa
theorem ph_norm (X : Zw) (n : Nat) (h : n < 8) : ((X.mul (phN n)).conj).mul (X.mul (phN n)) = X.conj.mul X := by
  obtain ⟨a, b, c, d⟩ := X
  rcases (show n = 0 ∨ n = 1 ∨ n = 2 ∨ n = 3 ∨ n = 4 ∨ n = 5 ∨ n = 6 ∨ n = 7 by omega) with rfl | rfl | rfl | rfl | rfl | rfl | rfl | rfl
  all_goals simp [phN, phL, Zw.mul, Zw.conj, Int.mul_neg, Int.neg_mul]
  all_goals (try simp only [Int.mul_comm b a, Int.mul_comm c a, Int.mul_comm d a, Int.mul_comm c b, Int.mul_comm d b, Int.mul_comm d c])
  all_goals omega
theorem phase_norm {x : Dw} {i : Int} (hx : x.ok) (h : dMulB x (dPh i) = true) (ht : dMulB (dConjV x) x = true) (ht' : dMulB (dConjV (dMulV x (dPh i))) (dMulV x (dPh i)) = true) :
    dMulV (dConjV (dMulV x (dPh i))) (dMulV x (dPh i)) = dMulV (dConjV x) x := by
  have hx' := dMulV_ok h
  have m := muls_of h
  have m1 := muls_of ht
  have m2 := muls_of ht'
  have o1 := dMulV_ok ht
  have o2 := dMulV_ok ht'
  have hn := ph_norm x.n (i % 8).toNat (res8 i)
  rw [show dConjV (dMulV x (dPh i)) = (dMulV x (dPh i)).conj from if_pos hx'] at m2 o2 ⊢
  rw [show dConjV x = x.conj from if_pos hx] at m1 o1 ⊢
  refine unique o2 o1 ?_
  have m' : rootN x.e.toNat (dMulV x (dPh i)).n = rootN (dMulV x (dPh i)).e.toNat (x.n.mul (phN (i % 8).toNat)) := m
  generalize dMulV x (dPh i) = y at *
  have m1' : rootN (x.e.toNat + x.e.toNat) (dMulV x.conj x).n = rootN (dMulV x.conj x).e.toNat (x.n.conj.mul x.n) := m1
  have m2' : rootN (y.e.toNat + y.e.toNat) (dMulV y.conj y).n = rootN (dMulV y.conj y).e.toNat (y.n.conj.mul y.n) := m2
  generalize dMulV y.conj y = t' at *
  generalize dMulV x.conj x = t at *
  show rootN t.e.toNat t'.n = rootN t'.e.toNat t.n
  have key : rootN (x.e.toNat + x.e.toNat) (y.n.conj.mul y.n) = rootN (y.e.toNat + y.e.toNat) (x.n.conj.mul x.n) := by
    rw [rootN_mul2, rootN_conj, m', ← rootN_conj, ← rootN_mul2, hn]
  apply rootN_inj (k := (x.e.toNat + x.e.toNat) + (y.e.toNat + y.e.toNat))
  rw [rootN_add, rootN_add _ _ (rootN t'.e.toNat t.n)]
  rw [rootN_comm (x.e.toNat + x.e.toNat) t.e.toNat, rootN_comm (y.e.toNat + y.e.toNat) t.e.toNat, rootN_comm (y.e.toNat + y.e.toNat) (x.e.toNat + x.e.toNat), m2']
  rw [rootN_comm (x.e.toNat + x.e.toNat) t'.e.toNat (y.n.conj.mul y.n), key]
  rw [rootN_comm (x.e.toNat + x.e.toNat) t'.e.toNat t.n, m1']
  rw [rootN_comm (y.e.toNat + y.e.toNat) t'.e.toNat, rootN_comm (y.e.toNat + y.e.toNat) t.e.toNat, rootN_comm t.e.toNat t'.e.toNat]
theorem inn_phase (i : Int) : ∀ (l : List Dw) (s a b : Dw), (∀ x ∈ l, x.ok) → (l.all fun x => dMulB x (dPh i)) = true → inn s (l.zip l) = some a → inn s ((l.map fun x => dMulV x (dPh i)).zip (l.map fun x => dMulV x (dPh i))) = some b → a = b
  | [], s, a, b, _, _, h, h' => by
    simp [inn] at h h'
    rw [← h, ← h']
  | x :: l, s, a, b, ho, hp, h, h' => by
    rw [List.all_cons, Bool.and_eq_true] at hp
    simp only [List.zip_cons_cons, List.map_cons, inn] at h h'
    split at h
    · split at h'
      · rename_i c1 c2
        rw [Bool.and_eq_true] at c1 c2
        have e := phase_norm (ho x (by simp)) hp.1 c1.1 c2.1
        rw [e] at h'
        exact inn_phase i l _ a b (fun y hy => ho y (List.mem_cons_of_mem _ hy)) hp.2 h h'
      · cases h'
    · cases h
theorem norm_phase {l : List Dw} {i : Int} (hs : scaleB l (dPh i) = true) (h1 : innB l l = true) (h2 : innB (scaleL l (dPh i)) (scaleL l (dPh i)) = true) : innV l l = innV (scaleL l (dPh i)) (scaleL l (dPh i)) := by
  have hL : scaleL l (dPh i) = l.map fun x => dMulV x (dPh i) := if_pos hs
  unfold scaleB at hs
  rw [Bool.and_eq_true] at hs
  rw [hL] at h2 ⊢
  unfold innB at h1 h2
  unfold innV
  obtain ⟨a, ha⟩ := Option.isSome_iff_exists.1 h1
  obtain ⟨b, hb⟩ := Option.isSome_iff_exists.1 h2
  rw [ha, hb]
  unfold innO at ha hb
  split at ha
  · split at hb
    · exact inn_phase i l .zero a b (stB_iff.1 hs.1).1 hs.2 ha hb
    · cases hb
  · cases ha
end Go.Proofs.Ytggjbpgibdpflaa
