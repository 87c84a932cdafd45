/- BaseB14: several of our texts in one: SnA MtP VcM AdM PmM. -/
import Derived.Test.YtadimihfbpkilaaBaseB22
import Derived.Test.YtadimihfbpkilaaPhS
import Derived.Test.YtadimihfbpkilaaBaseB05
import Derived.Test.YtadimihfbpkilaaBaseB06
import Derived.Test.YtadimihfbpkilaaBaseB07
namespace Go.Proofs.Ytadimihfbpkilaa
open Go.RowKit
/-- A place and a factor, six cells. -/
def sentE : Enc (Nat × Dw) := ⟨fun p => .int .i64 (p.1 : Int) :: fl p.2, 6, 107, fun _ => rfl, fun x u h => by
  rw [List.mem_cons] at h
  rcases h with rfl | h
  · rfl
  · simp [fl] at h; rcases h with rfl | rfl | rfl | rfl | rfl <;> rfl⟩
/-- A bit turned over. -/
def flipN (i q : Nat) : Nat := i ^^^ (1 <<< q)
theorem flip_all : ∀ i : Fin 16, ∀ q : Fin 4, bits .xor .i64 ((i.val : Nat) : Int) (wrap64 (2 ^ q.val)) = ((flipN i.val q.val : Nat) : Int) := by decide +kernel
theorem flip_bits {i q : Nat} (hi : i < 16) (hq : q < 4) : bits .xor .i64 (i : Int) (wrap64 (2 ^ q)) = ((flipN i q : Nat) : Int) := flip_all ⟨i, hi⟩ ⟨q, hq⟩
theorem new_sent (w : World) (i : Nat) (x : Dw) : sentE.Sl (w.alloc (.cells #[.int .i64 (i : Int), .int .i64 x.n.a, .int .i64 x.n.b, .int .i64 x.n.c, .int .i64 x.n.d, .int .i64 x.e] 107)) w.heap.size (.slice (some ⟨w.heap.size, 0, none⟩) 1 1) [(i, x)] :=
  Enc.Sl.mk rfl (Nat.le_refl _) (Nat.le_refl _) ⟨_, heap_alloc_new w _, rfl⟩
attribute [local irreducible] World.cell?
set_option maxRecDepth 100000 in
set_option maxHeartbeats 1600000 in
theorem sflip (i q : Nat) (t : Bool) (w : World) (hi : i < 16) (hq : q < 4) :
    Calls Try.prog 74 #[.int .i64 i, .int .i64 q, .bool t] w fun e w' => ∃ v, e = .returned v ∧ sentE.Sl w' w.heap.size v [(if t then flipN i q else i, dPh 0)] ∧ Below w.heap.size w w' := by
  have H := Lib.hid (fun W => sphase 0 W)
  generalize dPh 0 = P at *
  cases t with
  | true =>
    have hf := flip_bits hi hq
    generalize flipN i q = f at *
    go_enter Try.func74, Try.ntmps74
    go_wp2_with fail
    refine (H.out _).mono ?_
    rintro e w1 ⟨rfl, hb1⟩
    have Hs := Lib.hid ((new_sent w1 f P).mono hb1.size)
    have Hb1 := Lib.hid hb1
    have hs1 := hb1.size
    clear hb1
    go_wp2_with fail
    go_ret
    exact ⟨_, rfl, Hs.out, by have := Hb1.out; go_grown⟩
  | false =>
    go_enter Try.func74, Try.ntmps74
    go_wp2_with fail
    refine (H.out _).mono ?_
    rintro e w1 ⟨rfl, hb1⟩
    have Hs := Lib.hid ((new_sent w1 i P).mono hb1.size)
    have Hb1 := Lib.hid hb1
    have hs1 := hb1.size
    clear hb1
    go_wp2_with fail
    go_ret
    exact ⟨_, rfl, Hs.out, by have := Hb1.out; go_grown⟩
set_option maxRecDepth 100000 in
set_option maxHeartbeats 1600000 in
theorem sphas (i : Nat) (t : Bool) (k : Int) (w : World) (_ : i < 16) :
    Calls Try.prog 75 #[.int .i64 i, .bool t, .int .i64 k] w fun e w' => ∃ v, e = .returned v ∧ sentE.Sl w' w.heap.size v [(i, if t then dPh k else dPh 0)] ∧ Below w.heap.size w w' := by
  have H := Lib.hid (fun W => sphase k W)
  have H0 := Lib.hid (fun W => sphase 0 W)
  generalize dPh k = P at *
  generalize dPh 0 = O at *
  cases t with
  | true =>
    go_enter Try.func75, Try.ntmps75
    go_wp2_with fail
    refine (H.out _).mono ?_
    rintro e w1 ⟨rfl, hb1⟩
    have Hs := Lib.hid ((new_sent w1 i P).mono hb1.size)
    have Hb1 := Lib.hid hb1
    have hs1 := hb1.size
    clear hb1
    go_wp2_with fail
    go_ret
    exact ⟨_, rfl, Hs.out, by have := Hb1.out; go_grown⟩
  | false =>
    go_enter Try.func75, Try.ntmps75
    go_wp2_with fail
    refine (H0.out _).mono ?_
    rintro e w1 ⟨rfl, hb1⟩
    have Hs := Lib.hid ((new_sent w1 i O).mono hb1.size)
    have Hb1 := Lib.hid hb1
    have hs1 := hb1.size
    clear hb1
    go_wp2_with fail
    go_ret
    exact ⟨_, rfl, Hs.out, by have := Hb1.out; go_grown⟩
end Go.Proofs.Ytadimihfbpkilaa
namespace Go.Proofs.Ytadimihfbpkilaa
open Go.RowKit
/-- IsValidMatrix. -/
def mtB (M : List (List Dw)) : Bool := decide (0 < M.length) && M.all fun r => decide (r.length = M.length) && stB r
theorem mtB_iff {M : List (List Dw)} : mtB M = true ↔ 0 < M.length ∧ ∀ r ∈ M, r.length = M.length ∧ stB r = true := by
  unfold mtB
  rw [Bool.and_eq_true, decide_eq_true_eq, List.all_eq_true]
  simp only [Bool.and_eq_true, decide_eq_true_eq]
theorem mtB_qc {M : List (List Dw)} (h : mtB M = true) : 0 < qc M.length := by
  obtain ⟨h0, h1⟩ := mtB_iff.1 h
  obtain ⟨e, s⟩ := h1 M[0] (List.getElem_mem h0)
  rw [← e]
  exact (stB_iff.1 s).2
theorem mtB_len {M : List (List Dw)} (h : mtB M = true) : M.length ≤ 16 := by have := qc_len (mtB_qc h); omega
theorem mtB_row {M : List (List Dw)} (h : mtB M = true) {j : Nat} {r : List Dw} (hr : M[j]? = some r) : r.length = M.length ∧ stB r = true := (mtB_iff.1 h).2 r (List.mem_of_getElem? hr)
/-- IdentityMatrix. -/
def idM (n : Int) : List (List Dw) := if 1 ≤ n ∧ n ≤ 4 then (List.range (2 ^ n.toNat)).map fun (i : Nat) => basisL n (i : Int) else []
/-- The sum of a row and a state, from a sum on. -/
def mrow : Dw → List (Dw × Dw) → Option Dw
  | s, [] => some s
  | s, p :: r => if p.1 = .zero ∨ p.2 = .zero then mrow s r else if dMulB p.1 p.2 && dAddB s (dMulV p.1 p.2) then mrow (dAddV s (dMulV p.1 p.2)) r else none
def rowO (r v : List Dw) : Option Dw := mrow .zero (r.zip v)
def rowV (r v : List Dw) : Dw := (rowO r v).getD .zero
def rowB (r v : List Dw) : Bool := (rowO r v).isSome
/-- ApplyMatrix. -/
def appB (M : List (List Dw)) (v : List Dw) : Bool := mtB M && stB v && decide (M.length = v.length) && M.all fun r => rowB r v
def appL (M : List (List Dw)) (v : List Dw) : List Dw := if appB M v then M.map fun r => rowV r v else []
theorem appL_len {M : List (List Dw)} {v : List Dw} (h : appB M v = true) : (appL M v).length = M.length := by rw [appL, if_pos h, List.length_map]
/-- Columns. -/
def col (M : List (List Dw)) (k : Nat) : List Dw := M.map fun r => r.getD k .zero
def colsM (L : List (List Dw)) : List (List Dw) := (List.range L.length).map fun i => col L i
theorem col_len (M : List (List Dw)) (k : Nat) : (col M k).length = M.length := by rw [col, List.length_map]
theorem colsM_len (L : List (List Dw)) : (colsM L).length = L.length := by rw [colsM, List.length_map, List.length_range]
/-- MulMatrix. -/
def mulMB (A B : List (List Dw)) : Bool := mtB A && mtB B && decide (A.length = B.length) && (List.range B.length).all fun k => appB A (col B k)
def mulML (A B : List (List Dw)) : List (List Dw) := (List.range B.length).map fun k => appL A (col B k)
def mulM (A B : List (List Dw)) : List (List Dw) := if mulMB A B then colsM (mulML A B) else []
/-- AdjointMatrix. -/
def adjM (M : List (List Dw)) : List (List Dw) := if mtB M then (List.range M.length).map fun i => (col M i).map dConjV else []
/-- IsUnitary. -/
def uniB (M : List (List Dw)) : Bool := mtB M && mulMB (adjM M) M && decide (mulM (adjM M) M = idM (qc M.length))
/-- GlobalPhase. -/
def gpAt (A B : List (List Dw)) (i : Nat) : Bool := (A.zip B).all fun p => scaleB p.2 (dPh (i : Int)) && decide (scaleL p.2 (dPh (i : Int)) = p.1)
def gpF (A B : List (List Dw)) : Option Nat := if mtB A && mtB B && decide (A.length = B.length) then (List.range 8).find? (gpAt A B) else none
def gpB (A B : List (List Dw)) : Bool := (gpF A B).isSome
def gpV (A B : List (List Dw)) : Int := ((gpF A B).getD 0 : Nat)
end Go.Proofs.Ytadimihfbpkilaa
namespace Go.Proofs.Ytadimihfbpkilaa
theorem conj_addZ (x y : Zw) : (x.add y).conj = x.conj.add y.conj := by
  obtain ⟨a, b, c, d⟩ := x
  obtain ⟨p, q, r, s⟩ := y
  simp only [Zw.conj, Zw.add, Zw.mk.injEq]
  refine ⟨?_, ?_, ?_, ?_⟩ <;> first | trivial | omega
theorem dconj_conj {x : Dw} (h : x.ok) : dConjV (dConjV x) = x := by
  rw [show dConjV x = x.conj from if_pos h, show dConjV x.conj = x.conj.conj from if_pos (dconj_ok.2 h)]
  obtain ⟨⟨a, b, c, d⟩, e⟩ := x
  simp [Dw.conj, Zw.conj]
theorem conjV_ok {x : Dw} (h : x.ok) : (dConjV x).ok := by rw [show dConjV x = x.conj from if_pos h]; exact dconj_ok.2 h
theorem dconj_add {x y : Dw} (h : dAddB x y = true) (k : dAddB (dConjV x) (dConjV y) = true) : dAddV (dConjV x) (dConjV y) = dConjV (dAddV x y) := by
  have hx := (dAddB_iff.1 h).1
  have hy := (dAddB_iff.1 h).2.1
  have hs := dAddV_ok h
  have hk := dAddV_ok k
  have a1 := adds_of h
  have a2 := adds_of k
  rw [show dConjV x = x.conj from if_pos hx, show dConjV y = y.conj from if_pos hy] at a2 hk ⊢
  rw [show dConjV (dAddV x y) = (dAddV x y).conj from if_pos hs]
  refine unique hk (dconj_ok.2 hs) ?_
  generalize dAddV x.conj y.conj = r' at *
  generalize dAddV x y = r at *
  unfold Adds at a1 a2
  have a2 : rootN (x.e.toNat + y.e.toNat) r'.n = rootN r'.e.toNat ((rootN y.e.toNat x.n.conj).add (rootN x.e.toNat y.n.conj)) := a2
  show rootN r.e.toNat r'.n = rootN r'.e.toNat r.n.conj
  apply rootN_inj (k := x.e.toNat + y.e.toNat)
  rw [rootN_comm, a2, rootN_comm (x.e.toNat + y.e.toNat) r'.e.toNat, rootN_conj (x.e.toNat + y.e.toNat) r.n, a1, rootN_conj, rootN_conj, ← conj_addZ, rootN_comm r.e.toNat, rootN_conj]
theorem inn_conj : ∀ (l : List (Dw × Dw)) (s r r' : Dw), (∀ p ∈ l, p.1.ok ∧ p.2.ok) → s.ok → inn s l = some r → inn (dConjV s) (l.map fun p => (p.2, p.1)) = some r' → r' = dConjV r
  | [], s, r, r', _, _, h, h' => by
    simp [inn] at h h'
    rw [← h, ← h']
  | p :: l, s, r, r', hp, hs, h, h' => by
    obtain ⟨p1, p2⟩ := p
    have ⟨ok1, ok2⟩ := hp (p1, p2) (by simp)
    simp only [List.map_cons, inn] at h h'
    split at h
    · split at h'
      · rename_i c1 c2
        rw [Bool.and_eq_true] at c1 c2
        simp only [] at c1 c2 ok1 ok2
        have e : dMulV (dConjV p2) p1 = dConjV (dMulV (dConjV p1) p2) := by
          have := dconj_hom c1.1
          rw [dconj_conj ok1] at this
          rw [← this.2, dMulV_comm]
        rw [e] at c2 h'
        have e2 := dconj_add c1.2 c2.2
        rw [e2] at h'
        exact inn_conj l _ r r' (fun q hq => hp q (List.mem_cons_of_mem _ hq)) (dAddV_ok c1.2) h h'
      · cases h'
    · cases h
theorem inn_ok : ∀ (l : List (Dw × Dw)) (s r : Dw), s.ok → inn s l = some r → r.ok
  | [], s, r, hs, h => by
    simp [inn] at h
    rw [← h]; exact hs
  | p :: l, s, r, hs, h => by
    rw [inn] at h
    split at h
    · rename_i c
      rw [Bool.and_eq_true] at c
      exact inn_ok l _ r (dAddV_ok c.2) h
    · cases h
theorem innV_eb (a b : List Dw) : -9223372036854775808 ≤ (innV a b).e ∧ (innV a b).e ≤ 9223372036854775807 := by
  unfold innV
  cases h : innO a b with
  | none => exact ⟨by decide, by decide⟩
  | some r =>
    unfold innO at h
    split at h
    · have := (inn_ok _ _ _ (by decide) h).2
      show -9223372036854775808 ≤ r.e ∧ r.e ≤ 9223372036854775807
      omega
    · cases h
theorem zip_swap : ∀ (a b : List Dw), (a.zip b).map (fun p => (p.2, p.1)) = b.zip a
  | [], [] => rfl
  | [], _ :: _ => rfl
  | _ :: _, [] => rfl
  | x :: a, y :: b => by simp [zip_swap a b]
theorem inn_sym {a b : List Dw} (h : innB a b = true) (h' : innB b a = true) : dConjV (innV a b) = innV b a := by
  unfold innB at h h'
  unfold innV
  obtain ⟨r, hr⟩ := Option.isSome_iff_exists.1 h
  obtain ⟨r', hr'⟩ := Option.isSome_iff_exists.1 h'
  rw [hr, hr']
  unfold innO at hr hr'
  split at hr
  · rename_i c
    split at hr'
    · rw [Bool.and_eq_true, Bool.and_eq_true] at c
      have oka := (stB_iff.1 c.1.1).1
      have okb := (stB_iff.1 c.1.2).1
      have hz : dConjV .zero = .zero := by decide
      rw [← zip_swap a b, ← hz] at hr'
      exact (inn_conj (a.zip b) .zero r r' (fun p hp => ⟨oka _ (List.of_mem_zip hp).1, okb _ (List.of_mem_zip hp).2⟩) (by decide) hr hr').symm
    · cases hr'
  · cases hr
theorem zip_all (a b : List Dw) (p : Dw → Dw → Bool) (h : ∀ x y, p y x = p x y) : ((b.zip a).all fun q => p q.1 q.2) = (a.zip b).all fun q => p q.1 q.2 := by
  rw [← zip_swap a b, List.all_map]
  congr 1
  funext q
  exact h _ _
theorem addS_comm (a b : List Dw) : addSB b a = addSB a b ∧ addSL b a = addSL a b := by
  have hB : addSB b a = addSB a b := by
    unfold addSB
    rw [zip_all a b dAddB (fun x y => dAddB_comm x y), Bool.and_comm (stB b)]
    congr 2
    simp [eq_comm]
  refine ⟨hB, ?_⟩
  unfold addSL
  rw [hB]
  split
  · rw [← zip_swap a b, List.map_map]
    congr 1
    funext q
    exact dAddV_comm _ _
  · rfl
end Go.Proofs.Ytadimihfbpkilaa
namespace Go.Proofs.Ytadimihfbpkilaa
theorem list_range {α : Type} (l : List α) (d : α) : (List.range l.length).map (fun i => l.getD i d) = l := by
  refine List.ext_getElem? fun i => ?_
  rw [List.getElem?_map]
  by_cases h : i < l.length
  · rw [List.getElem?_range h, List.getElem?_eq_getElem h]
    show some (l.getD i d) = _
    rw [List.getD_eq_getElem?_getD, List.getElem?_eq_getElem h]; rfl
  · rw [List.getElem?_eq_none (by simpa using h), List.getElem?_eq_none (by omega)]; rfl
theorem mul_parts {A B : List (List Dw)} (h : mulMB A B = true) : mtB A = true ∧ mtB B = true ∧ A.length = B.length ∧ ∀ k, k < B.length → appB A (col B k) = true := by
  unfold mulMB at h
  simp only [Bool.and_eq_true, decide_eq_true_eq, List.all_eq_true] at h
  exact ⟨h.1.1.1, h.1.1.2, h.1.2, fun k hk => h.2 k (List.mem_range.2 hk)⟩
/-- The entries of a product. -/
theorem mulM_eq {A B : List (List Dw)} (h : mulMB A B = true) : mulM A B = (List.range A.length).map fun i => (List.range A.length).map fun k => rowV (A.getD i []) (col B k) := by
  obtain ⟨_, _, hl, hall⟩ := mul_parts h
  unfold mulM
  rw [if_pos h]
  unfold colsM mulML
  rw [List.length_map, List.length_range, ← hl]
  refine List.map_congr_left fun i hi => ?_
  have hi := List.mem_range.1 hi
  rw [col, List.map_map]
  refine List.map_congr_left fun k hk => ?_
  have hk := List.mem_range.1 hk
  show (appL A (col B k)).getD i .zero = rowV (A.getD i []) (col B k)
  unfold appL
  rw [if_pos (hall k (by omega)), List.getD_eq_getElem?_getD, List.getElem?_map, List.getElem?_eq_getElem hi, List.getD_eq_getElem?_getD, List.getElem?_eq_getElem hi]
  rfl
theorem cj_zero {x : Dw} (h : x.ok) : dConjV x = .zero ↔ x = .zero := by
  constructor
  · intro e; rw [← dconj_conj h, e]; rfl
  · rintro rfl; rfl
/-- A row's sum, and the conjugates' in the other order. -/
theorem mrow_conj : ∀ (l : List (Dw × Dw)) (s r r' : Dw), (∀ p ∈ l, p.1.ok ∧ p.2.ok) → s.ok → mrow s l = some r → mrow (dConjV s) (l.map fun p => (dConjV p.2, dConjV p.1)) = some r' → r' = dConjV r ∧ r.ok
  | [], s, r, r', _, hs, h, h' => by
    injection h with h
    injection h' with h'
    subst h h'
    exact ⟨rfl, hs⟩
  | p :: l, s, r, r', hl, hs, h, h' => by
    obtain ⟨h1, h2⟩ := hl p List.mem_cons_self
    have hl2 := fun q hq => hl q (List.mem_cons_of_mem p hq)
    rw [List.map_cons, mrow] at h'
    rw [mrow] at h
    by_cases hz : p.1 = .zero ∨ p.2 = .zero
    · rw [if_pos hz] at h
      rw [if_pos (show dConjV p.2 = .zero ∨ dConjV p.1 = .zero from hz.elim (fun e => .inr ((cj_zero h1).2 e)) (fun e => .inl ((cj_zero h2).2 e)))] at h'
      exact mrow_conj l s r r' hl2 hs h h'
    · rw [if_neg hz] at h
      rw [if_neg (show ¬(dConjV p.2 = .zero ∨ dConjV p.1 = .zero) from fun e => hz (e.elim (fun e => .inr ((cj_zero h2).1 e)) (fun e => .inl ((cj_zero h1).1 e))))] at h'
      split at h
      · rename_i hb
        rw [Bool.and_eq_true] at hb
        split at h'
        · rename_i hb'
          rw [Bool.and_eq_true] at hb'
          have hm : dMulV (dConjV p.2) (dConjV p.1) = dConjV (dMulV p.1 p.2) := by
            rw [dMulV_comm (dConjV p.1) (dConjV p.2)]
            exact (dconj_hom hb.1).2
          simp only [hm] at h' hb'
          rw [dconj_add hb.2 hb'.2] at h'
          exact mrow_conj l _ r r' hl2 (dAddV_ok hb.2) h h'
        · cases h'
      · cases h
theorem zip_conj : ∀ (a c : List Dw), (c.map dConjV).zip (a.map dConjV) = (a.zip c).map fun p => (dConjV p.2, dConjV p.1)
  | [], c => by simp
  | x :: a, [] => by simp
  | x :: a, y :: c => by
    rw [List.map_cons, List.map_cons, List.zip_cons_cons, zip_conj a c, List.zip_cons_cons, List.map_cons]
theorem row_conj {a c : List Dw} (ha : ∀ x ∈ a, x.ok) (hc : ∀ x ∈ c, x.ok) (h : rowB a c = true) (h' : rowB (c.map dConjV) (a.map dConjV) = true) : rowV (c.map dConjV) (a.map dConjV) = dConjV (rowV a c) ∧ (rowV a c).ok := by
  unfold rowB at h h'
  unfold rowV
  cases e : rowO a c with
  | none => rw [e] at h; cases h
  | some r =>
    cases e' : rowO (c.map dConjV) (a.map dConjV) with
    | none => rw [e'] at h'; cases h'
    | some r' =>
      unfold rowO at e e'
      rw [zip_conj] at e'
      exact mrow_conj (a.zip c) .zero r r' (fun p hp => ⟨ha _ (List.of_mem_zip hp).1, hc _ (List.of_mem_zip hp).2⟩) (by decide) e e'
end Go.Proofs.Ytadimihfbpkilaa
namespace Go.Proofs.Ytadimihfbpkilaa
/-- The first n integers. -/
def upI (n : Nat) : List Int := (List.range n).map fun (i : Nat) => (i : Int)
/-- IdentityPermutation. -/
def idP (n : Int) : List Int := if 1 ≤ n ∧ n ≤ 4 then upI n.toNat else []
theorem idP_len (n : Int) : (idP n).length ≤ 4 := by
  unfold idP
  split
  · rw [upI, List.length_map, List.length_range]; omega
  · exact Nat.zero_le _
/-- One place of a permutation: within the length, and met for the first time. -/
def plB (p : List Int) (i : Nat) : Bool := decide (0 ≤ p.getD i 0 ∧ p.getD i 0 ≤ (p.length : Int) - 1) && !decide (p.getD i 0 ∈ p.take i)
/-- IsPermutation. -/
def permB (p : List Int) : Bool := ((List.range p.length).all (plB p)) && decide (1 ≤ p.length ∧ p.length ≤ 4)
theorem permB_iff {p : List Int} : permB p = true ↔ (∀ i, i < p.length → plB p i = true) ∧ 1 ≤ p.length ∧ p.length ≤ 4 := by
  unfold permB
  rw [Bool.and_eq_true, List.all_eq_true, decide_eq_true_eq]
  exact ⟨fun h => ⟨fun i hi => h.1 i (List.mem_range.2 hi), h.2⟩, fun h => ⟨fun i hi => h.1 i (List.mem_range.1 hi), h.2⟩⟩
theorem permB_at {p : List Int} (h : permB p = true) {i : Nat} {x : Int} (hx : p[i]? = some x) : 0 ≤ x ∧ x < p.length := by
  have hi : i < p.length := by
    rcases Nat.lt_or_ge i p.length with h' | h'
    · exact h'
    · rw [List.getElem?_eq_none h'] at hx; cases hx
  have h1 := (permB_iff.1 h).1 i hi
  unfold plB at h1
  rw [Bool.and_eq_true, decide_eq_true_eq, List.getD_eq_getElem?_getD, hx] at h1
  have h2 := h1.1
  simp only [Option.getD_some] at h2
  omega
/-- An element by an integer. -/
def atI (q : List Int) (x : Int) : Int := q.getD x.toNat 0
/-- ComposePermutations. -/
def cmpP (p q : List Int) : List Int := if permB p && permB q && decide (p.length = q.length) then p.map (atI q) else []
/-- InversePermutation, after i steps. -/
def invS (p : List Int) : Nat → List Int
  | 0 => List.replicate p.length 0
  | i + 1 => (invS p i).set (p.getD i 0).toNat (i : Int)
def invP (p : List Int) : List Int := if permB p then invS p p.length else []
theorem invS_len (p : List Int) : ∀ i, (invS p i).length = p.length
  | 0 => by simp [invS]
  | i + 1 => by rw [invS, List.length_set, invS_len p i]
/-- PermuteIndex, after q steps. -/
def pixS (p : List Int) (i : Nat) : Nat → Nat
  | 0 => 0
  | q + 1 => pixS p i q ||| ((i >>> q &&& 1) <<< (p.getD q 0).toNat)
def pixB (p : List Int) (i : Int) : Bool := permB p && decide (0 ≤ i ∧ i ≤ 2 ^ p.length - 1)
def pix (p : List Int) (i : Int) : Int := if pixB p i then (pixS p i.toNat p.length : Nat) else 0
/-- PermutationMatrix. -/
def pmL (p : List Int) : List (List Dw) := (List.range (2 ^ p.length)).map fun (i : Nat) => basisL (p.length : Int) (pix p (i : Int))
def pmM (p : List Int) : List (List Dw) := if permB p then colsM (pmL p) else []
/-- All permutations that are valid. -/
def pers : Nat → List (List Int)
  | 0 => [[]]
  | n + 1 => (pers n).flatMap fun p => (List.range (n + 1)).map fun k => (p.take k) ++ (n : Int) :: (p.drop k)
def allP : List (List Int) := pers 1 ++ pers 2 ++ pers 3 ++ pers 4
theorem allP_ok : allP.all permB = true := by decide +kernel
theorem small_all : ∀ (n : Nat) (l : List Int), l.length = n → (∀ x ∈ l, 0 ≤ x ∧ x < 4) → l ∈ (List.range n).foldr (fun _ (acc : List (List Int)) => acc.flatMap fun t => [0, 1, 2, 3].map fun (x : Int) => x :: t) [[]]
  | 0, l, h, _ => by rw [List.eq_nil_of_length_eq_zero h]; simp
  | n + 1, [], h, _ => by cases h
  | n + 1, x :: l, h, hb => by
    have ih := small_all n l (by simpa using h) fun y hy => hb y (List.mem_cons_of_mem _ hy)
    have hx := hb x (List.mem_cons_self ..)
    have e : ∀ (m : Nat) (f : List (List Int) → List (List Int)) (a : List (List Int)), (List.range (m + 1)).foldr (fun _ acc => f acc) a = f ((List.range m).foldr (fun _ acc => f acc) a) := by
      intro m f a
      induction m generalizing a with
      | zero => rfl
      | succ m ih =>
        rw [List.range_succ, List.foldr_append, ih, List.range_succ, List.foldr_append]
        rfl
    rw [e n (fun acc => acc.flatMap fun t => [0, 1, 2, 3].map fun (x : Int) => x :: t)]
    refine List.mem_flatMap.2 ⟨l, ih, List.mem_map.2 ⟨x, ?_, rfl⟩⟩
    rcases (show x = 0 ∨ x = 1 ∨ x = 2 ∨ x = 3 by omega) with rfl | rfl | rfl | rfl <;> simp
/-- Every valid permutation is among them. -/
theorem perm_mem {p : List Int} (h : permB p = true) : p ∈ allP := by
  have hl := (permB_iff.1 h).2
  have hb : ∀ x ∈ p, 0 ≤ x ∧ x < 4 := fun x hx => by
    obtain ⟨i, hi⟩ := List.getElem?_of_mem hx
    have := permB_at h hi
    omega
  have key : ∀ n, n ≤ 4 → ∀ p ∈ (List.range n).foldr (fun _ (acc : List (List Int)) => acc.flatMap fun t => [0, 1, 2, 3].map fun (x : Int) => x :: t) [[]], permB p = true → p ∈ allP := by
    intro n hn
    rcases (show n = 0 ∨ n = 1 ∨ n = 2 ∨ n = 3 ∨ n = 4 by omega) with rfl | rfl | rfl | rfl | rfl <;> decide +kernel
  exact key p.length hl.2 p (small_all p.length p rfl hb) h
end Go.Proofs.Ytadimihfbpkilaa
