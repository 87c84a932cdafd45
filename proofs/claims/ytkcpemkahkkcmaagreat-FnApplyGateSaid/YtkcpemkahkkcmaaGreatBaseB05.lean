/- BaseB05: several of our texts in one: SnA DsL Iv. -/
import Derived.Test.YtkcpemkahkkcmaaGreatBaseB04
import Derived.Test.YtkcpemkahkkcmaaGreatPhS
import Derived.Test.YtkcpemkahkkcmaaGreatBaseB19
import Derived.Test.YtkcpemkahkkcmaaGreatDwN
import Derived.Lib.AppendStr
import Derived.Test.YtkcpemkahkkcmaaGreatDwW
namespace Go.Proofs.YtkcpemkahkkcmaaGreat
open Go.RowKit
/-- A place and a factor, six cells. -/
def sentE : Enc (Nat × Dw) := ⟨fun p => .int .i64 (p.1 : Int) :: fl p.2, 6, 64, fun _ => rfl, fun x u h => by
  rw [List.mem_cons] at h
  rcases h with rfl | h
  · rfl
  · simp [fl] at h; rcases h with rfl | rfl | rfl | rfl | rfl <;> rfl⟩
/-- A bit turned over. -/
def flipN (i q : Nat) : Nat := i ^^^ (1 <<< q)
theorem flip_all : ∀ i : Fin 16, ∀ q : Fin 4, bits .xor .i64 ((i.val : Nat) : Int) (wrap64 (2 ^ q.val)) = ((flipN i.val q.val : Nat) : Int) := by decide +kernel
theorem flip_bits {i q : Nat} (hi : i < 16) (hq : q < 4) : bits .xor .i64 (i : Int) (wrap64 (2 ^ q)) = ((flipN i q : Nat) : Int) := flip_all ⟨i, hi⟩ ⟨q, hq⟩
theorem new_sent (w : World) (i : Nat) (x : Dw) : sentE.Sl (w.alloc (.cells #[.int .i64 (i : Int), .int .i64 x.n.a, .int .i64 x.n.b, .int .i64 x.n.c, .int .i64 x.n.d, .int .i64 x.e] 64)) w.heap.size (.slice (some ⟨w.heap.size, 0, none⟩) 1 1) [(i, x)] :=
  Enc.Sl.mk rfl (Nat.le_refl _) (Nat.le_refl _) ⟨_, heap_alloc_new w _, rfl⟩
attribute [local irreducible] World.cell?
set_option maxRecDepth 100000 in
set_option maxHeartbeats 1600000 in
theorem sflip (i q : Nat) (t : Bool) (w : World) (hi : i < 16) (hq : q < 4) :
    Calls Tryz.prog 58 #[.int .i64 i, .int .i64 q, .bool t] w fun e w' => ∃ v, e = .returned v ∧ sentE.Sl w' w.heap.size v [(if t then flipN i q else i, dPh 0)] ∧ Below w.heap.size w w' := by
  have H := Lib.hid (fun W => sphase 0 W)
  generalize dPh 0 = P at *
  cases t with
  | true =>
    have hf := flip_bits hi hq
    generalize flipN i q = f at *
    go_enter Tryz.func58, Tryz.ntmps58
    go_wp2_with fail
    refine (H.out _).mono ?_
    rintro e w1 ⟨rfl, hb1⟩
    have Hs := Lib.hid ((new_sent w1 f P).mono hb1.size)
    have Hb1 := Lib.hid hb1
    have hs1 := hb1.size
    clear hb1
    go_wp2_with fail
    go_ret
    exact ⟨_, rfl, Hs.out, by have := Hb1.out; go_grown⟩
  | false =>
    go_enter Tryz.func58, Tryz.ntmps58
    go_wp2_with fail
    refine (H.out _).mono ?_
    rintro e w1 ⟨rfl, hb1⟩
    have Hs := Lib.hid ((new_sent w1 i P).mono hb1.size)
    have Hb1 := Lib.hid hb1
    have hs1 := hb1.size
    clear hb1
    go_wp2_with fail
    go_ret
    exact ⟨_, rfl, Hs.out, by have := Hb1.out; go_grown⟩
set_option maxRecDepth 100000 in
set_option maxHeartbeats 1600000 in
theorem sphas (i : Nat) (t : Bool) (k : Int) (w : World) (_ : i < 16) :
    Calls Tryz.prog 60 #[.int .i64 i, .bool t, .int .i64 k] w fun e w' => ∃ v, e = .returned v ∧ sentE.Sl w' w.heap.size v [(i, if t then dPh k else dPh 0)] ∧ Below w.heap.size w w' := by
  have H := Lib.hid (fun W => sphase k W)
  have H0 := Lib.hid (fun W => sphase 0 W)
  generalize dPh k = P at *
  generalize dPh 0 = O at *
  cases t with
  | true =>
    go_enter Tryz.func60, Tryz.ntmps60
    go_wp2_with fail
    refine (H.out _).mono ?_
    rintro e w1 ⟨rfl, hb1⟩
    have Hs := Lib.hid ((new_sent w1 i P).mono hb1.size)
    have Hb1 := Lib.hid hb1
    have hs1 := hb1.size
    clear hb1
    go_wp2_with fail
    go_ret
    exact ⟨_, rfl, Hs.out, by have := Hb1.out; go_grown⟩
  | false =>
    go_enter Tryz.func60, Tryz.ntmps60
    go_wp2_with fail
    refine (H0.out _).mono ?_
    rintro e w1 ⟨rfl, hb1⟩
    have Hs := Lib.hid ((new_sent w1 i O).mono hb1.size)
    have Hb1 := Lib.hid hb1
    have hs1 := hb1.size
    clear hb1
    go_wp2_with fail
    go_ret
    exact ⟨_, rfl, Hs.out, by have := Hb1.out; go_grown⟩
end Go.Proofs.YtkcpemkahkkcmaaGreat
namespace Go.Proofs.YtkcpemkahkkcmaaGreat
open Go.RowKit
/-- A slice of the laws' fractions that came in. -/
def DsIn (w : World) (B : Nat) (a0 : Option Addr) (l : List Dw) : Prop :=
  l.length ≤ maxLen ∧ (∀ x ∈ l, -9223372036854775808 ≤ x.e ∧ x.e ≤ 9223372036854775807) ∧
  (0 < l.length → ∃ b off, a0 = some ⟨b, off, none⟩ ∧ b < B ∧ ∀ j x, l[j]? = some x → w.cell? ⟨b, off + j * 5, none⟩ = some (.int .i64 x.n.a) ∧ w.cell? ⟨b, off + j * 5 + 1, none⟩ = some (.int .i64 x.n.b) ∧ w.cell? ⟨b, off + j * 5 + 2, none⟩ = some (.int .i64 x.n.c) ∧ w.cell? ⟨b, off + j * 5 + 3, none⟩ = some (.int .i64 x.n.d) ∧ w.cell? ⟨b, off + j * 5 + 4, none⟩ = some (.int .i64 x.e))
theorem DsIn.below {w w' : World} {B : Nat} {a0 : Option Addr} {l : List Dw} (h : DsIn w B a0 l) (hb : Below B w w') : DsIn w' B a0 l :=
  ⟨h.1, h.2.1, fun h0 => by
    obtain ⟨b, off, e, hlt, hc⟩ := h.2.2 h0
    refine ⟨b, off, e, hlt, fun j x hx => ?_⟩
    obtain ⟨c0, c1, c2, c3, c4⟩ := hc j x hx
    exact ⟨(hb.cell (by exact hlt)).trans c0, (hb.cell (by exact hlt)).trans c1, (hb.cell (by exact hlt)).trans c2, (hb.cell (by exact hlt)).trans c3, (hb.cell (by exact hlt)).trans c4⟩⟩
theorem infoDw : (Tryz.prog.info? 54).map (fun i => (i.zero, i.size, i.bytes)) = some (some (.agg #[.int .i64 0, .int .i64 0, .int .i64 0, .int .i64 0, .int .i64 0]), 5, 40) := by kernel_rfl
theorem made_flat (n : Nat) : (madeCells #[.int .i64 0, .int .i64 0, .int .i64 0, .int .i64 0, .int .i64 0] (n * 5)).toList = flat (List.replicate n .zero) := by
  induction n with
  | zero => simp [madeCells, flat]
  | succ n ih =>
    have h : ∀ k, (#[.int .i64 0, .int .i64 0, .int .i64 0, .int .i64 0, .int .i64 0] : Array Value)[(n * 5 + k) % 5]! = (#[.int .i64 0, .int .i64 0, .int .i64 0, .int .i64 0, .int .i64 0] : Array Value)[k % 5]! := by
      intro k; rw [show (n * 5 + k) % 5 = k % 5 by omega]
    rw [List.replicate_succ', flat_app, ← ih, show (n + 1) * 5 = n * 5 + 5 by omega]
    simp only [madeCells, Array.toList_map, Array.toList_range, List.range_add, List.map_append, List.map_map]
    congr 1
    simp only [List.range_succ, List.range_zero, List.nil_append, List.map_append, List.map_cons, List.map_nil, Function.comp_def]
    rw [show (#[.int .i64 0, .int .i64 0, .int .i64 0, .int .i64 0, .int .i64 0] : Array Value).size = 5 from rfl, h 0, h 1, h 2, h 3, h 4]
    rfl
/-- Two elements of rows beside each other. -/
def E2 (w : World) (g g' o : Nat) (x y : Dw) (w' : World) : Prop := w'.cell? ⟨g, o, none⟩ = some (.int .i64 x.n.a) ∧ w'.cell? ⟨g, o + 1, none⟩ = some (.int .i64 x.n.b) ∧ w'.cell? ⟨g, o + 2, none⟩ = some (.int .i64 x.n.c) ∧ w'.cell? ⟨g, o + 3, none⟩ = some (.int .i64 x.n.d) ∧ w'.cell? ⟨g, o + 4, none⟩ = some (.int .i64 x.e) ∧ w'.cell? ⟨g', o, none⟩ = some (.int .i64 y.n.a) ∧ w'.cell? ⟨g', o + 1, none⟩ = some (.int .i64 y.n.b) ∧ w'.cell? ⟨g', o + 2, none⟩ = some (.int .i64 y.n.c) ∧ w'.cell? ⟨g', o + 3, none⟩ = some (.int .i64 y.n.d) ∧ w'.cell? ⟨g', o + 4, none⟩ = some (.int .i64 y.e) ∧ g < w'.heap.size ∧ g' < w'.heap.size ∧ Below w.heap.size w w'
theorem E2.drew {w w' : World} {g g' o : Nat} {x y : Dw} (h : E2 w g g' o x y w') : E2 w g g' o x y w'.drew :=
  let ⟨a0, a1, a2, a3, a4, b0, b1, b2, b3, b4, z, z', l⟩ := h; ⟨a0, a1, a2, a3, a4, b0, b1, b2, b3, b4, z, z', l.drew⟩
theorem E2.below {w w1 w2 : World} {g g' o : Nat} {x y : Dw} (h : E2 w g g' o x y w1) (hb : Below w1.heap.size w1 w2) : E2 w g g' o x y w2 :=
  let ⟨a0, a1, a2, a3, a4, b0, b1, b2, b3, b4, z, z', l⟩ := h
  ⟨cell_below a0 hb z, cell_below a1 hb z, cell_below a2 hb z, cell_below a3 hb z, cell_below a4 hb z, cell_below b0 hb z', cell_below b1 hb z', cell_below b2 hb z', cell_below b3 hb z', cell_below b4 hb z', Nat.lt_of_lt_of_le z hb.size, Nat.lt_of_lt_of_le z' hb.size, below_up l hb l.size⟩
theorem E2.low {w w' : World} {g g' o : Nat} {x y : Dw} (h : E2 w g g' o x y w') : Below w.heap.size w w' := let ⟨_, _, _, _, _, _, _, _, _, _, _, _, l⟩ := h; l
attribute [local irreducible] World.cell?
end Go.Proofs.YtkcpemkahkkcmaaGreat
namespace Go.Proofs.YtkcpemkahkkcmaaGreat
open Go.RowKit
/-- 1 over the k-th power of the root of 2, or zero past the limits. -/
def isV (k : Int) : Dw := if 0 ≤ k ∧ k ≤ 60 then ⟨⟨1, 0, 0, 0⟩, k⟩ else .zero
theorem isV_new (k : Int) : newV ⟨1, 0, 0, 0⟩ k = isV k := by
  have hd : divB ⟨1, 0, 0, 0⟩ = false := by decide
  have hr : ∀ n : Nat, red n ⟨1, 0, 0, 0⟩ = (⟨1, 0, 0, 0⟩, n) := by
    intro n
    cases n with
    | zero => rfl
    | succ n => unfold red; rw [hd]; rfl
  by_cases h : 0 ≤ k ∧ k ≤ 60
  · have hb : newB ⟨1, 0, 0, 0⟩ k = true := newB_iff.2 ⟨by decide, h.1, by omega, by rw [hr]; show k.toNat ≤ 60; omega⟩
    rw [newV_of hb, hr, show isV k = ⟨⟨1, 0, 0, 0⟩, k⟩ from if_pos h]
    simp only [Dw.mk.injEq, true_and]
    omega
  · have hb : newB ⟨1, 0, 0, 0⟩ k = false := by
      rw [Bool.eq_false_iff]
      intro hb
      obtain ⟨_, h0, h1, h2⟩ := newB_iff.1 hb
      rw [hr] at h2
      exact h ⟨h0, by have : k.toNat ≤ 60 := h2; omega⟩
    rw [show isV k = .zero from if_neg h, newV, if_neg (by rw [hb]; decide)]
attribute [local irreducible] World.cell?
set_option maxRecDepth 100000 in
set_option maxHeartbeats 800000 in
theorem sinv (k : Int) (w : World) :
    Calls Tryz.prog 61 #[.int .i64 k] w fun e w' => e = .returned (.agg #[.int .i64 (isV k).n.a, .int .i64 (isV k).n.b, .int .i64 (isV k).n.c, .int .i64 (isV k).n.d, .int .i64 (isV k).e]) ∧ Below w.heap.size w w' := by
  have Hi := Lib.hid (fun w => lin_any k 0 60 (decide (0 ≤ k ∧ k ≤ 60)) w rfl)
  by_cases h : 0 ≤ k ∧ k ≤ 60
  · rw [decide_eq_true h] at Hi
    rw [show isV k = ⟨⟨1, 0, 0, 0⟩, k⟩ from if_pos h]
    clear h
    go_enter Tryz.func61, Tryz.ntmps61
    go_wp2_with fail
    refine (Hi.out _).mono ?_
    rintro e wx ⟨rfl, rfl⟩
    go_wp2_with fail
    refine bodyPost_ret (v := (.agg #[.int .i64 (Dw.mk ⟨1, 0, 0, 0⟩ k).n.a, .int .i64 (Dw.mk ⟨1, 0, 0, 0⟩ k).n.b, .int .i64 (Dw.mk ⟨1, 0, 0, 0⟩ k).n.c, .int .i64 (Dw.mk ⟨1, 0, 0, 0⟩ k).n.d, .int .i64 (Dw.mk ⟨1, 0, 0, 0⟩ k).e])) (by simp [results, Tryz.results61, go_sem]) rfl ⟨rfl, ?_⟩
    go_grown
  · rw [decide_eq_false h] at Hi
    rw [show isV k = .zero from if_neg h]
    clear h
    go_enter Tryz.func61, Tryz.ntmps61
    go_wp2_with fail
    refine (Hi.out _).mono ?_
    rintro e wx ⟨rfl, rfl⟩
    go_wp2_with fail
    refine bodyPost_ret (v := (.agg #[.int .i64 Dw.zero.n.a, .int .i64 Dw.zero.n.b, .int .i64 Dw.zero.n.c, .int .i64 Dw.zero.n.d, .int .i64 Dw.zero.e])) (by simp [results, Tryz.results61, go_sem, Dw.zero, Zw.zero]) rfl ⟨rfl, ?_⟩
    go_grown
set_option maxRecDepth 100000 in
set_option maxHeartbeats 800000 in
theorem iinv (k : Int) (w : World) (h0 : -9223372036854775808 ≤ k) (h1 : k ≤ 9223372036854775807) :
    Calls Tryz.prog 81 #[.int .i64 k] w fun e w' => e = .returned (.agg #[.int .i64 (isV k).n.a, .int .i64 (isV k).n.b, .int .i64 (isV k).n.c, .int .i64 (isV k).n.d, .int .i64 (isV k).e]) ∧ Below w.heap.size w w' := by
  have Hn := Lib.hid (fun w => inew_any ⟨1, 0, 0, 0⟩ k w h0 h1)
  rw [isV_new] at Hn
  generalize isV k = r at *
  generalize newB ⟨1, 0, 0, 0⟩ k = t at *
  have Hr0 := Lib.hid (heap_alloc_new w (.cells #[.int .i64 0, .int .i64 0, .int .i64 0, .int .i64 0, .int .i64 0] 54))
  go_enter Tryz.func81, Tryz.ntmps81
  go_wp2_with fail
  refine (Hn.out _).mono ?_
  rintro e w1 ⟨rfl, hb1⟩
  have hr0 := below_blk hb1 (lt_of_block Hr0.out) Hr0.out
  obtain ⟨e0, e1, e2, e3, e4⟩ := blk_cells5 hr0
  have f1 := fun o => free_at hr0 o
  have zk := lt_of_block hr0
  have Hq := Lib.hid hr0
  have Hb1 := Lib.hid (below_up (B := w.heap.size) (w := w) (by go_grown) hb1 (by simp))
  clear hb1 hr0
  go_wp2_with fail
  obtain ⟨k0, k1, k2, k3, k4⟩ := blk_cells5 (alloc_blk (.cells #[.int .i64 r.n.a, .int .i64 r.n.b, .int .i64 r.n.c, .int .i64 r.n.d, .int .i64 r.e] 54) (set5_at (u0 := .int .i64 r.n.a) (u1 := .int .i64 r.n.b) (u2 := .int .i64 r.n.c) (u3 := .int .i64 r.n.d) (u4 := .int .i64 r.e) Hq.out))
  refine bodyPost_ret (v := (.agg #[.int .i64 r.n.a, .int .i64 r.n.b, .int .i64 r.n.c, .int .i64 r.n.d, .int .i64 r.e])) (by simp only [results, Tryz.results81]; simp [go_sem, k0, k1, k2, k3, k4]) rfl ⟨rfl, ?_⟩
  have := Hb1.out
  go_grown
end Go.Proofs.YtkcpemkahkkcmaaGreat
