/- BaseB06: several of our texts in one: DsL DsP DsQ DwDraw Iv. -/
import Derived.Test.YtlmiebeffdcfhaaGreatBaseB05
import Derived.Test.YtlmiebeffdcfhaaGreatDwN
import Derived.Lib.AppendStr
import Derived.Test.YtlmiebeffdcfhaaGreatBaseB07
import Derived.Test.YtlmiebeffdcfhaaGreatDwB
import Derived.Test.YtlmiebeffdcfhaaGreatBaseB22
namespace Go.Proofs.YtlmiebeffdcfhaaGreat
open Go.RowKit
/-- A slice of the laws' fractions that came in. -/
def DsIn (w : World) (B : Nat) (a0 : Option Addr) (l : List Dw) : Prop :=
  l.length ≤ maxLen ∧ (∀ x ∈ l, -9223372036854775808 ≤ x.e ∧ x.e ≤ 9223372036854775807) ∧
  (0 < l.length → ∃ b off, a0 = some ⟨b, off, none⟩ ∧ b < B ∧ ∀ j x, l[j]? = some x → w.cell? ⟨b, off + j * 5, none⟩ = some (.int .i64 x.n.a) ∧ w.cell? ⟨b, off + j * 5 + 1, none⟩ = some (.int .i64 x.n.b) ∧ w.cell? ⟨b, off + j * 5 + 2, none⟩ = some (.int .i64 x.n.c) ∧ w.cell? ⟨b, off + j * 5 + 3, none⟩ = some (.int .i64 x.n.d) ∧ w.cell? ⟨b, off + j * 5 + 4, none⟩ = some (.int .i64 x.e))
theorem DsIn.below {w w' : World} {B : Nat} {a0 : Option Addr} {l : List Dw} (h : DsIn w B a0 l) (hb : Below B w w') : DsIn w' B a0 l :=
  ⟨h.1, h.2.1, fun h0 => by
    obtain ⟨b, off, e, hlt, hc⟩ := h.2.2 h0
    refine ⟨b, off, e, hlt, fun j x hx => ?_⟩
    obtain ⟨c0, c1, c2, c3, c4⟩ := hc j x hx
    exact ⟨(hb.cell (by exact hlt)).trans c0, (hb.cell (by exact hlt)).trans c1, (hb.cell (by exact hlt)).trans c2, (hb.cell (by exact hlt)).trans c3, (hb.cell (by exact hlt)).trans c4⟩⟩
theorem infoDw : (Tryz.prog.info? 70).map (fun i => (i.zero, i.size, i.bytes)) = some (some (.agg #[.int .i64 0, .int .i64 0, .int .i64 0, .int .i64 0, .int .i64 0]), 5, 40) := by kernel_rfl
theorem made_flat (n : Nat) : (madeCells #[.int .i64 0, .int .i64 0, .int .i64 0, .int .i64 0, .int .i64 0] (n * 5)).toList = flat (List.replicate n .zero) := by
  induction n with
  | zero => simp [madeCells, flat]
  | succ n ih =>
    have h : ∀ k, (#[.int .i64 0, .int .i64 0, .int .i64 0, .int .i64 0, .int .i64 0] : Array Value)[(n * 5 + k) % 5]! = (#[.int .i64 0, .int .i64 0, .int .i64 0, .int .i64 0, .int .i64 0] : Array Value)[k % 5]! := by
      intro k; rw [show (n * 5 + k) % 5 = k % 5 by omega]
    rw [List.replicate_succ', flat_app, ← ih, show (n + 1) * 5 = n * 5 + 5 by omega]
    simp only [madeCells, Array.toList_map, Array.toList_range, List.range_add, List.map_append, List.map_map]
    congr 1
    simp only [List.range_succ, List.range_zero, List.nil_append, List.map_append, List.map_cons, List.map_nil, Function.comp_def]
    rw [show (#[.int .i64 0, .int .i64 0, .int .i64 0, .int .i64 0, .int .i64 0] : Array Value).size = 5 from rfl, h 0, h 1, h 2, h 3, h 4]
    rfl
/-- Two elements of rows beside each other. -/
def E2 (w : World) (g g' o : Nat) (x y : Dw) (w' : World) : Prop := w'.cell? ⟨g, o, none⟩ = some (.int .i64 x.n.a) ∧ w'.cell? ⟨g, o + 1, none⟩ = some (.int .i64 x.n.b) ∧ w'.cell? ⟨g, o + 2, none⟩ = some (.int .i64 x.n.c) ∧ w'.cell? ⟨g, o + 3, none⟩ = some (.int .i64 x.n.d) ∧ w'.cell? ⟨g, o + 4, none⟩ = some (.int .i64 x.e) ∧ w'.cell? ⟨g', o, none⟩ = some (.int .i64 y.n.a) ∧ w'.cell? ⟨g', o + 1, none⟩ = some (.int .i64 y.n.b) ∧ w'.cell? ⟨g', o + 2, none⟩ = some (.int .i64 y.n.c) ∧ w'.cell? ⟨g', o + 3, none⟩ = some (.int .i64 y.n.d) ∧ w'.cell? ⟨g', o + 4, none⟩ = some (.int .i64 y.e) ∧ g < w'.heap.size ∧ g' < w'.heap.size ∧ Below w.heap.size w w'
theorem E2.drew {w w' : World} {g g' o : Nat} {x y : Dw} (h : E2 w g g' o x y w') : E2 w g g' o x y w'.drew :=
  let ⟨a0, a1, a2, a3, a4, b0, b1, b2, b3, b4, z, z', l⟩ := h; ⟨a0, a1, a2, a3, a4, b0, b1, b2, b3, b4, z, z', l.drew⟩
theorem E2.below {w w1 w2 : World} {g g' o : Nat} {x y : Dw} (h : E2 w g g' o x y w1) (hb : Below w1.heap.size w1 w2) : E2 w g g' o x y w2 :=
  let ⟨a0, a1, a2, a3, a4, b0, b1, b2, b3, b4, z, z', l⟩ := h
  ⟨cell_below a0 hb z, cell_below a1 hb z, cell_below a2 hb z, cell_below a3 hb z, cell_below a4 hb z, cell_below b0 hb z', cell_below b1 hb z', cell_below b2 hb z', cell_below b3 hb z', cell_below b4 hb z', Nat.lt_of_lt_of_le z hb.size, Nat.lt_of_lt_of_le z' hb.size, below_up l hb l.size⟩
theorem E2.low {w w' : World} {g g' o : Nat} {x y : Dw} (h : E2 w g g' o x y w') : Below w.heap.size w w' := let ⟨_, _, _, _, _, _, _, _, _, _, _, _, l⟩ := h; l
attribute [local irreducible] World.cell?
end Go.Proofs.YtlmiebeffdcfhaaGreat
namespace Go.Proofs.YtlmiebeffdcfhaaGreat
open Go.RowKit
instance : DecidableEq Dw := fun x y => decidable_of_iff (eqDB x y = true) eqDB_iff
/-- The number of qubits of a state with n amplitudes, or 0. -/
def qc (n : Nat) : Int := if n = 2 then 1 else if n = 4 then 2 else if n = 8 then 3 else if n = 16 then 4 else 0
theorem qc_range (n : Nat) : 0 ≤ qc n ∧ qc n ≤ 4 := by unfold qc; repeat' split; all_goals omega
theorem qc_len {n : Nat} (h : 0 < qc n) : n = 2 ∨ n = 4 ∨ n = 8 ∨ n = 16 := by
  unfold qc at h
  repeat' split at h
  all_goals first | omega | simp_all
/-- IsValidState. -/
def stB (l : List Dw) : Bool := l.all okD && decide (0 < qc l.length)
theorem stB_iff {l : List Dw} : stB l = true ↔ (∀ x ∈ l, x.ok) ∧ 0 < qc l.length := by
  unfold stB
  rw [Bool.and_eq_true, List.all_eq_true, decide_eq_true_eq]
  exact ⟨fun h => ⟨fun x hx => okD_true.1 (h.1 x hx), h.2⟩, fun h => ⟨fun x hx => okD_true.2 (h.1 x hx), h.2⟩⟩
theorem stB_len {l : List Dw} (h : stB l = true) : l.length ≤ 16 := by have := qc_len (stB_iff.1 h).2; omega
/-- BasisState. -/
def basisL (n i : Int) : List Dw := if 1 ≤ n ∧ n ≤ 4 ∧ 0 ≤ i ∧ i ≤ 2 ^ n.toNat - 1 then (List.replicate (2 ^ n.toNat) .zero).set i.toNat oneD else []
end Go.Proofs.YtlmiebeffdcfhaaGreat
namespace Go.Proofs.YtlmiebeffdcfhaaGreat
open Go.RowKit
theorem qc_cases (n : Nat) : (n = 2 ∧ qc n = 1) ∨ (n = 4 ∧ qc n = 2) ∨ (n = 8 ∧ qc n = 3) ∨ (n = 16 ∧ qc n = 4) ∨ (n ≠ 2 ∧ n ≠ 4 ∧ n ≠ 8 ∧ n ≠ 16 ∧ qc n = 0) := by
  unfold qc
  by_cases h2 : n = 2
  · simp [h2]
  · by_cases h4 : n = 4
    · simp [h4]
    · by_cases h8 : n = 8
      · simp [h8]
      · by_cases h16 : n = 16
        · simp [h16]
        · simp [h2, h4, h8, h16]
set_option maxRecDepth 100000 in
set_option maxHeartbeats 800000 in
theorem squbits (a : Option Addr) (n cap : Nat) (w : World) :
    Calls Tryz.prog 54 #[.slice a n cap] w fun e w' => e = .returned (.int .i64 (qc n)) ∧ w = w' := by
  rcases qc_cases n with ⟨rfl, h⟩ | ⟨rfl, h⟩ | ⟨rfl, h⟩ | ⟨rfl, h⟩ | ⟨h2, h4, h8, h16, h⟩
  · rw [h]
    go_enter Tryz.func54, Tryz.ntmps54
    go_wp2_with fail
    go_rounds 5
    go_ret
    exact ⟨rfl, rfl⟩
  · rw [h]
    go_enter Tryz.func54, Tryz.ntmps54
    go_wp2_with fail
    go_rounds 5
    go_ret
    exact ⟨rfl, rfl⟩
  · rw [h]
    go_enter Tryz.func54, Tryz.ntmps54
    go_wp2_with fail
    go_rounds 5
    go_ret
    exact ⟨rfl, rfl⟩
  · rw [h]
    go_enter Tryz.func54, Tryz.ntmps54
    go_wp2_with fail
    go_rounds 5
    go_ret
    exact ⟨rfl, rfl⟩
  · rw [h]
    have e2 : ((n : Int) == 2) = false := by simp; omega
    have e4 : ((n : Int) == 4) = false := by simp; omega
    have e8 : ((n : Int) == 8) = false := by simp; omega
    have e16 : ((n : Int) == 16) = false := by simp; omega
    clear h2 h4 h8 h16 h
    go_enter Tryz.func54, Tryz.ntmps54
    go_wp2_with fail
    go_rounds 5
    go_ret
    exact ⟨rfl, rfl⟩
theorem all_take {α : Type} {p : α → Bool} {l : List α} {j : Nat} {x : α} (hx : l[j]? = some x) (h : (l.take j).all p = true) : (l.take (j + 1)).all p = p x := by
  rw [List.take_add_one, hx, List.all_append, h]
  simp
theorem all_no {α : Type} {p : α → Bool} {l : List α} {j : Nat} {x : α} (hx : l[j]? = some x) (h : p x = false) : l.all p = false := by
  rw [List.all_eq_false]
  exact ⟨x, List.mem_of_getElem? hx, by simp [h]⟩
attribute [local irreducible] World.cell?
set_option maxRecDepth 100000 in
set_option maxHeartbeats 1600000 in
theorem svalidSt (B : Nat) (v : Value) (l : List Dw) (w : World) (hv : DSl w B v l) (hm : l.length ≤ 1048576) :
    Calls Tryz.prog 71 #[v] w fun e w' => e = .returned (.bool (stB l)) ∧ Below w.heap.size w w' := by
  obtain ⟨a, cap, rfl, hcap, hr⟩ := hv
  have Hr := Lib.hid hr
  clear hr
  have Hst := Lib.hid (show stB l = (l.all okD && decide (0 < qc l.length)) from rfl)
  generalize stB l = S at *
  have hqr := qc_range l.length
  go_enter Tryz.func71, Tryz.ntmps71
  go_wp2_with fail
  go_loopw [3] (fun i wr => ∃ j : Nat, j ≤ l.length ∧ i = .int .i64 j ∧ Hid ((l.take j).all okD = true) ∧ Hid (Below w.heap.size w wr)) (fun i _ => l.length - (intOf i).toNat)
  case atStart => exact ⟨0, Nat.zero_le _, rfl, Lib.hid (by simp), Below.refl _ _⟩
  case round =>
    obtain ⟨j, hj, rfl, Hall, Hb⟩ := hrel
    by_cases hlt : j < l.length
    · obtain ⟨g, rfl, _, hrow⟩ := Hr.out (by omega)
      obtain ⟨x, hx⟩ : ∃ x, l[j]? = some x := ⟨l[j], List.getElem?_eq_getElem hlt⟩
      have r1 := hrow.below Hb.out hrow.lt
      obtain ⟨c0, c1, c2, c3, c4⟩ := r1.cells hx
      have Hv := Lib.hid (svalidD x wr)
      have Hx := Lib.hid hx
      clear hx r1 hrow
      cases ho : okD x with
      | false =>
        rw [ho] at Hv
        have hS : S = false := by rw [Hst.out, all_no Hx.out ho]; rfl
        subst hS
        go_wp2_with fail
        refine (Hv.out).mono ?_
        rintro e w2 ⟨rfl, hb2⟩
        have Hb2 := Lib.hid (Hb.out.trans (hb2.mono Hb.out.size))
        clear hb2
        go_wp2_with fail
        go_ret
        exact ⟨rfl, Hb2.out⟩
      | true =>
        rw [ho] at Hv
        go_wp2_with fail
        refine (Hv.out).mono ?_
        rintro e w2 ⟨rfl, hb2⟩
        have Hb2 := Lib.hid (Hb.out.trans (hb2.mono Hb.out.size))
        clear hb2
        go_wp2_with fail
        go_roundw
        case rel => exact ⟨j + 1, by omega, by go_num, (all_take Hx.out Hall.out).trans ho, Hb2⟩
        case measure => simp [intOf]; omega
    · obtain rfl : j = l.length := by omega
      have hall : l.all okD = true := by have := Hall.out; rwa [List.take_length] at this
      have hS : S = decide (0 < qc l.length) := by rw [Hst.out, hall]; rfl
      subst hS
      have Hq := Lib.hid (squbits a l.length cap wr)
      go_wp2_with fail
      refine (Hq.out).mono ?_
      rintro e w2 ⟨rfl, rfl⟩
      go_wp2_with fail
      go_ret
      exact ⟨rfl, Hb.out⟩
end Go.Proofs.YtlmiebeffdcfhaaGreat
namespace Go.Proofs.YtlmiebeffdcfhaaGreat
open Go.RowKit
theorem CurAt.drew {B : Nat} {w : World} (h : CurAt w B) : CurAt w.drew B := h
attribute [local irreducible] World.cell?
set_option maxRecDepth 100000 in
set_option maxHeartbeats 800000 in
theorem pickB (B b n cap : Nat) (l : List Int) (w : World) (hcur : CurAt w B) (hl : ListAt w b n (fun j => .int .i64 (l.getD j 0))) (hne : b ≠ B) (h1 : 1 ≤ n) (h2 : n ≤ 1000000) (hn : n = l.length) (lo hi : Int) (hb : ∀ v ∈ l, lo ≤ v ∧ v ≤ hi) :
    Calls Tryz.prog 47 #[.pointer (some ⟨B, 0, none⟩), .slice (some ⟨b, 0, none⟩) n cap] w fun e w' => (∃ v : Int, lo ≤ v ∧ v ≤ hi ∧ e = .returned (.int .i64 v)) ∧ CurAt w' B ∧ Own B w w' := by
  refine (pickInt_any B b n cap (fun j => l.getD j 0) w hcur hl hne h1 h2).mono ?_
  rintro e w1 ⟨⟨j, hj, rfl⟩, hc, ho⟩
  have hm : l.getD j 0 ∈ l := by rw [List.getD_eq_getElem?_getD, List.getElem?_eq_getElem (by omega)]; exact List.getElem_mem _
  exact ⟨⟨_, (hb _ hm).1, (hb _ hm).2, rfl⟩, hc, ho⟩
end Go.Proofs.YtlmiebeffdcfhaaGreat
namespace Go.Proofs.YtlmiebeffdcfhaaGreat
open Go.RowKit
/-- 1 over the k-th power of the root of 2, or zero past the limits. -/
def isV (k : Int) : Dw := if 0 ≤ k ∧ k ≤ 60 then ⟨⟨1, 0, 0, 0⟩, k⟩ else .zero
theorem isV_new (k : Int) : newV ⟨1, 0, 0, 0⟩ k = isV k := by
  have hd : divB ⟨1, 0, 0, 0⟩ = false := by decide
  have hr : ∀ n : Nat, red n ⟨1, 0, 0, 0⟩ = (⟨1, 0, 0, 0⟩, n) := by
    intro n
    cases n with
    | zero => rfl
    | succ n => unfold red; rw [hd]; rfl
  by_cases h : 0 ≤ k ∧ k ≤ 60
  · have hb : newB ⟨1, 0, 0, 0⟩ k = true := newB_iff.2 ⟨by decide, h.1, by omega, by rw [hr]; show k.toNat ≤ 60; omega⟩
    rw [newV_of hb, hr, show isV k = ⟨⟨1, 0, 0, 0⟩, k⟩ from if_pos h]
    simp only [Dw.mk.injEq, true_and]
    omega
  · have hb : newB ⟨1, 0, 0, 0⟩ k = false := by
      rw [Bool.eq_false_iff]
      intro hb
      obtain ⟨_, h0, h1, h2⟩ := newB_iff.1 hb
      rw [hr] at h2
      exact h ⟨h0, by have : k.toNat ≤ 60 := h2; omega⟩
    rw [show isV k = .zero from if_neg h, newV, if_neg (by rw [hb]; decide)]
attribute [local irreducible] World.cell?
set_option maxRecDepth 100000 in
set_option maxHeartbeats 800000 in
theorem sinv (k : Int) (w : World) :
    Calls Tryz.prog 105 #[.int .i64 k] w fun e w' => e = .returned (.agg #[.int .i64 (isV k).n.a, .int .i64 (isV k).n.b, .int .i64 (isV k).n.c, .int .i64 (isV k).n.d, .int .i64 (isV k).e]) ∧ Below w.heap.size w w' := by
  have Hi := Lib.hid (fun w => lin_any k 0 60 (decide (0 ≤ k ∧ k ≤ 60)) w rfl)
  by_cases h : 0 ≤ k ∧ k ≤ 60
  · rw [decide_eq_true h] at Hi
    rw [show isV k = ⟨⟨1, 0, 0, 0⟩, k⟩ from if_pos h]
    clear h
    go_enter Tryz.func105, Tryz.ntmps105
    go_wp2_with fail
    refine (Hi.out _).mono ?_
    rintro e wx ⟨rfl, rfl⟩
    go_wp2_with fail
    refine bodyPost_ret (v := (.agg #[.int .i64 (Dw.mk ⟨1, 0, 0, 0⟩ k).n.a, .int .i64 (Dw.mk ⟨1, 0, 0, 0⟩ k).n.b, .int .i64 (Dw.mk ⟨1, 0, 0, 0⟩ k).n.c, .int .i64 (Dw.mk ⟨1, 0, 0, 0⟩ k).n.d, .int .i64 (Dw.mk ⟨1, 0, 0, 0⟩ k).e])) (by simp [results, Tryz.results105, go_sem]) rfl ⟨rfl, ?_⟩
    go_grown
  · rw [decide_eq_false h] at Hi
    rw [show isV k = .zero from if_neg h]
    clear h
    go_enter Tryz.func105, Tryz.ntmps105
    go_wp2_with fail
    refine (Hi.out _).mono ?_
    rintro e wx ⟨rfl, rfl⟩
    go_wp2_with fail
    refine bodyPost_ret (v := (.agg #[.int .i64 Dw.zero.n.a, .int .i64 Dw.zero.n.b, .int .i64 Dw.zero.n.c, .int .i64 Dw.zero.n.d, .int .i64 Dw.zero.e])) (by simp [results, Tryz.results105, go_sem, Dw.zero, Zw.zero]) rfl ⟨rfl, ?_⟩
    go_grown
set_option maxRecDepth 100000 in
set_option maxHeartbeats 800000 in
theorem iinv (k : Int) (w : World) (h0 : -9223372036854775808 ≤ k) (h1 : k ≤ 9223372036854775807) :
    Calls Tryz.prog 158 #[.int .i64 k] w fun e w' => e = .returned (.agg #[.int .i64 (isV k).n.a, .int .i64 (isV k).n.b, .int .i64 (isV k).n.c, .int .i64 (isV k).n.d, .int .i64 (isV k).e]) ∧ Below w.heap.size w w' := by
  have Hn := Lib.hid (fun w => inew_any ⟨1, 0, 0, 0⟩ k w h0 h1)
  rw [isV_new] at Hn
  generalize isV k = r at *
  generalize newB ⟨1, 0, 0, 0⟩ k = t at *
  have Hr0 := Lib.hid (heap_alloc_new w (.cells #[.int .i64 0, .int .i64 0, .int .i64 0, .int .i64 0, .int .i64 0] 70))
  go_enter Tryz.func158, Tryz.ntmps158
  go_wp2_with fail
  refine (Hn.out _).mono ?_
  rintro e w1 ⟨rfl, hb1⟩
  have hr0 := below_blk hb1 (lt_of_block Hr0.out) Hr0.out
  obtain ⟨e0, e1, e2, e3, e4⟩ := blk_cells5 hr0
  have f1 := fun o => free_at hr0 o
  have zk := lt_of_block hr0
  have Hq := Lib.hid hr0
  have Hb1 := Lib.hid (below_up (B := w.heap.size) (w := w) (by go_grown) hb1 (by simp))
  clear hb1 hr0
  go_wp2_with fail
  obtain ⟨k0, k1, k2, k3, k4⟩ := blk_cells5 (alloc_blk (.cells #[.int .i64 r.n.a, .int .i64 r.n.b, .int .i64 r.n.c, .int .i64 r.n.d, .int .i64 r.e] 70) (set5_at (u0 := .int .i64 r.n.a) (u1 := .int .i64 r.n.b) (u2 := .int .i64 r.n.c) (u3 := .int .i64 r.n.d) (u4 := .int .i64 r.e) Hq.out))
  refine bodyPost_ret (v := (.agg #[.int .i64 r.n.a, .int .i64 r.n.b, .int .i64 r.n.c, .int .i64 r.n.d, .int .i64 r.e])) (by simp only [results, Tryz.results158]; simp [go_sem, k0, k1, k2, k3, k4]) rfl ⟨rfl, ?_⟩
  have := Hb1.out
  go_grown
end Go.Proofs.YtlmiebeffdcfhaaGreat
