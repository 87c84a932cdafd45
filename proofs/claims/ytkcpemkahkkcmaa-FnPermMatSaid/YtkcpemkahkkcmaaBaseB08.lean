/- BaseB08: several of our texts in one: SnA DsL DsP DsQ Iv DwR ApKc DwDraw2 DsKb. -/
import Derived.Test.YtkcpemkahkkcmaaBaseB17
import Derived.Test.YtkcpemkahkkcmaaPhS
import Derived.Test.YtkcpemkahkkcmaaDwN
import Derived.Lib.AppendStr
import Derived.Test.YtkcpemkahkkcmaaBaseB03
import Derived.Test.YtkcpemkahkkcmaaDwB
import Derived.Test.YtkcpemkahkkcmaaDwA
import Derived.Test.YtkcpemkahkkcmaaDwDraw
import Derived.Laws.CopyOwn
namespace Go.Proofs.Ytkcpemkahkkcmaa
open Go.RowKit
/-- A place and a factor, six cells. -/
def sentE : Enc (Nat × Dw) := ⟨fun p => .int .i64 (p.1 : Int) :: fl p.2, 6, 111, fun _ => rfl, fun x u h => by
  rw [List.mem_cons] at h
  rcases h with rfl | h
  · rfl
  · simp [fl] at h; rcases h with rfl | rfl | rfl | rfl | rfl <;> rfl⟩
/-- A bit turned over. -/
def flipN (i q : Nat) : Nat := i ^^^ (1 <<< q)
theorem flip_all : ∀ i : Fin 16, ∀ q : Fin 4, bits .xor .i64 ((i.val : Nat) : Int) (wrap64 (2 ^ q.val)) = ((flipN i.val q.val : Nat) : Int) := by decide +kernel
theorem flip_bits {i q : Nat} (hi : i < 16) (hq : q < 4) : bits .xor .i64 (i : Int) (wrap64 (2 ^ q)) = ((flipN i q : Nat) : Int) := flip_all ⟨i, hi⟩ ⟨q, hq⟩
theorem new_sent (w : World) (i : Nat) (x : Dw) : sentE.Sl (w.alloc (.cells #[.int .i64 (i : Int), .int .i64 x.n.a, .int .i64 x.n.b, .int .i64 x.n.c, .int .i64 x.n.d, .int .i64 x.e] 111)) w.heap.size (.slice (some ⟨w.heap.size, 0, none⟩) 1 1) [(i, x)] :=
  Enc.Sl.mk rfl (Nat.le_refl _) (Nat.le_refl _) ⟨_, heap_alloc_new w _, rfl⟩
attribute [local irreducible] World.cell?
set_option maxRecDepth 100000 in
set_option maxHeartbeats 1600000 in
theorem sflip (i q : Nat) (t : Bool) (w : World) (hi : i < 16) (hq : q < 4) :
    Calls Try.prog 134 #[.int .i64 i, .int .i64 q, .bool t] w fun e w' => ∃ v, e = .returned v ∧ sentE.Sl w' w.heap.size v [(if t then flipN i q else i, dPh 0)] ∧ Below w.heap.size w w' := by
  have H := Lib.hid (fun W => sphase 0 W)
  generalize dPh 0 = P at *
  cases t with
  | true =>
    have hf := flip_bits hi hq
    generalize flipN i q = f at *
    go_enter Try.func134, Try.ntmps134
    go_wp2_with fail
    refine (H.out _).mono ?_
    rintro e w1 ⟨rfl, hb1⟩
    have Hs := Lib.hid ((new_sent w1 f P).mono hb1.size)
    have Hb1 := Lib.hid hb1
    have hs1 := hb1.size
    clear hb1
    go_wp2_with fail
    go_ret
    exact ⟨_, rfl, Hs.out, by have := Hb1.out; go_grown⟩
  | false =>
    go_enter Try.func134, Try.ntmps134
    go_wp2_with fail
    refine (H.out _).mono ?_
    rintro e w1 ⟨rfl, hb1⟩
    have Hs := Lib.hid ((new_sent w1 i P).mono hb1.size)
    have Hb1 := Lib.hid hb1
    have hs1 := hb1.size
    clear hb1
    go_wp2_with fail
    go_ret
    exact ⟨_, rfl, Hs.out, by have := Hb1.out; go_grown⟩
set_option maxRecDepth 100000 in
set_option maxHeartbeats 1600000 in
theorem sphas (i : Nat) (t : Bool) (k : Int) (w : World) (_ : i < 16) :
    Calls Try.prog 136 #[.int .i64 i, .bool t, .int .i64 k] w fun e w' => ∃ v, e = .returned v ∧ sentE.Sl w' w.heap.size v [(i, if t then dPh k else dPh 0)] ∧ Below w.heap.size w w' := by
  have H := Lib.hid (fun W => sphase k W)
  have H0 := Lib.hid (fun W => sphase 0 W)
  generalize dPh k = P at *
  generalize dPh 0 = O at *
  cases t with
  | true =>
    go_enter Try.func136, Try.ntmps136
    go_wp2_with fail
    refine (H.out _).mono ?_
    rintro e w1 ⟨rfl, hb1⟩
    have Hs := Lib.hid ((new_sent w1 i P).mono hb1.size)
    have Hb1 := Lib.hid hb1
    have hs1 := hb1.size
    clear hb1
    go_wp2_with fail
    go_ret
    exact ⟨_, rfl, Hs.out, by have := Hb1.out; go_grown⟩
  | false =>
    go_enter Try.func136, Try.ntmps136
    go_wp2_with fail
    refine (H0.out _).mono ?_
    rintro e w1 ⟨rfl, hb1⟩
    have Hs := Lib.hid ((new_sent w1 i O).mono hb1.size)
    have Hb1 := Lib.hid hb1
    have hs1 := hb1.size
    clear hb1
    go_wp2_with fail
    go_ret
    exact ⟨_, rfl, Hs.out, by have := Hb1.out; go_grown⟩
end Go.Proofs.Ytkcpemkahkkcmaa
namespace Go.Proofs.Ytkcpemkahkkcmaa
open Go.RowKit
/-- A slice of the laws' fractions that came in. -/
def DsIn (w : World) (B : Nat) (a0 : Option Addr) (l : List Dw) : Prop :=
  l.length ≤ maxLen ∧ (∀ x ∈ l, -9223372036854775808 ≤ x.e ∧ x.e ≤ 9223372036854775807) ∧
  (0 < l.length → ∃ b off, a0 = some ⟨b, off, none⟩ ∧ b < B ∧ ∀ j x, l[j]? = some x → w.cell? ⟨b, off + j * 5, none⟩ = some (.int .i64 x.n.a) ∧ w.cell? ⟨b, off + j * 5 + 1, none⟩ = some (.int .i64 x.n.b) ∧ w.cell? ⟨b, off + j * 5 + 2, none⟩ = some (.int .i64 x.n.c) ∧ w.cell? ⟨b, off + j * 5 + 3, none⟩ = some (.int .i64 x.n.d) ∧ w.cell? ⟨b, off + j * 5 + 4, none⟩ = some (.int .i64 x.e))
theorem DsIn.below {w w' : World} {B : Nat} {a0 : Option Addr} {l : List Dw} (h : DsIn w B a0 l) (hb : Below B w w') : DsIn w' B a0 l :=
  ⟨h.1, h.2.1, fun h0 => by
    obtain ⟨b, off, e, hlt, hc⟩ := h.2.2 h0
    refine ⟨b, off, e, hlt, fun j x hx => ?_⟩
    obtain ⟨c0, c1, c2, c3, c4⟩ := hc j x hx
    exact ⟨(hb.cell (by exact hlt)).trans c0, (hb.cell (by exact hlt)).trans c1, (hb.cell (by exact hlt)).trans c2, (hb.cell (by exact hlt)).trans c3, (hb.cell (by exact hlt)).trans c4⟩⟩
set_option maxRecDepth 100000 in
set_option maxHeartbeats 400000 in
theorem szDs (a0 : Option Addr) (n cap : Nat) (l : Int) (w : World) (hn : n ≤ maxLen) (l0 : 0 ≤ l) (l1 : l ≤ 1048576) :
    Calls Try.prog 51 #[.slice a0 n cap, .int .i64 l] w fun e w' => e = .returned (.int .i64 (if (n : Int) ≤ l then l - n else -1)) ∧ w = w' := by
  unfold maxLen at hn
  by_cases h : (n : Int) ≤ l
  · rw [if_pos h]
    go_enter Try.func51, Try.ntmps51
    go_wp2_with fail
    go_ret
    exact ⟨rfl, rfl⟩
  · rw [if_neg h]
    go_enter Try.func51, Try.ntmps51
    go_wp2_with fail
    go_ret
    exact ⟨rfl, rfl⟩
theorem infoDw : (Try.prog.info? 86).map (fun i => (i.zero, i.size, i.bytes)) = some (some (.agg #[.int .i64 0, .int .i64 0, .int .i64 0, .int .i64 0, .int .i64 0]), 5, 40) := by kernel_rfl
theorem cellsLw : Try.prog.cellsOf 115 = 5 := by kernel_rfl
theorem made_flat (n : Nat) : (madeCells #[.int .i64 0, .int .i64 0, .int .i64 0, .int .i64 0, .int .i64 0] (n * 5)).toList = flat (List.replicate n .zero) := by
  induction n with
  | zero => simp [madeCells, flat]
  | succ n ih =>
    have h : ∀ k, (#[.int .i64 0, .int .i64 0, .int .i64 0, .int .i64 0, .int .i64 0] : Array Value)[(n * 5 + k) % 5]! = (#[.int .i64 0, .int .i64 0, .int .i64 0, .int .i64 0, .int .i64 0] : Array Value)[k % 5]! := by
      intro k; rw [show (n * 5 + k) % 5 = k % 5 by omega]
    rw [List.replicate_succ', flat_app, ← ih, show (n + 1) * 5 = n * 5 + 5 by omega]
    simp only [madeCells, Array.toList_map, Array.toList_range, List.range_add, List.map_append, List.map_map]
    congr 1
    simp only [List.range_succ, List.range_zero, List.nil_append, List.map_append, List.map_cons, List.map_nil, Function.comp_def]
    rw [show (#[.int .i64 0, .int .i64 0, .int .i64 0, .int .i64 0, .int .i64 0] : Array Value).size = 5 from rfl, h 0, h 1, h 2, h 3, h 4]
    rfl
theorem half_at {l : List Dw} {j : Nat} (h : j < l.length) : (l.take j ++ List.replicate (l.length - j) Dw.zero)[j]? = some .zero := by
  rw [List.getElem?_append_right (by simp; omega), List.getElem?_replicate, if_pos (by simp; omega)]
theorem half_set {l : List Dw} {j : Nat} {x : Dw} (hx : l[j]? = some x) : (l.take j ++ List.replicate (l.length - j) Dw.zero).set j x = l.take (j + 1) ++ List.replicate (l.length - (j + 1)) Dw.zero := by
  have h : j < l.length := by
    rcases Nat.lt_or_ge j l.length with h' | h'
    · exact h'
    · rw [List.getElem?_eq_none h'] at hx; cases hx
  rw [List.set_append_right _ _ (by simp; omega), List.take_add_one, hx]
  rw [show l.length - j = (l.length - (j + 1)) + 1 by omega, List.replicate_succ, show j - (l.take j).length = 0 by simp; omega]
  simp
/-- Two elements of rows beside each other. -/
def E2 (w : World) (g g' o : Nat) (x y : Dw) (w' : World) : Prop := w'.cell? ⟨g, o, none⟩ = some (.int .i64 x.n.a) ∧ w'.cell? ⟨g, o + 1, none⟩ = some (.int .i64 x.n.b) ∧ w'.cell? ⟨g, o + 2, none⟩ = some (.int .i64 x.n.c) ∧ w'.cell? ⟨g, o + 3, none⟩ = some (.int .i64 x.n.d) ∧ w'.cell? ⟨g, o + 4, none⟩ = some (.int .i64 x.e) ∧ w'.cell? ⟨g', o, none⟩ = some (.int .i64 y.n.a) ∧ w'.cell? ⟨g', o + 1, none⟩ = some (.int .i64 y.n.b) ∧ w'.cell? ⟨g', o + 2, none⟩ = some (.int .i64 y.n.c) ∧ w'.cell? ⟨g', o + 3, none⟩ = some (.int .i64 y.n.d) ∧ w'.cell? ⟨g', o + 4, none⟩ = some (.int .i64 y.e) ∧ g < w'.heap.size ∧ g' < w'.heap.size ∧ Below w.heap.size w w'
theorem E2.drew {w w' : World} {g g' o : Nat} {x y : Dw} (h : E2 w g g' o x y w') : E2 w g g' o x y w'.drew :=
  let ⟨a0, a1, a2, a3, a4, b0, b1, b2, b3, b4, z, z', l⟩ := h; ⟨a0, a1, a2, a3, a4, b0, b1, b2, b3, b4, z, z', l.drew⟩
theorem E2.below {w w1 w2 : World} {g g' o : Nat} {x y : Dw} (h : E2 w g g' o x y w1) (hb : Below w1.heap.size w1 w2) : E2 w g g' o x y w2 :=
  let ⟨a0, a1, a2, a3, a4, b0, b1, b2, b3, b4, z, z', l⟩ := h
  ⟨cell_below a0 hb z, cell_below a1 hb z, cell_below a2 hb z, cell_below a3 hb z, cell_below a4 hb z, cell_below b0 hb z', cell_below b1 hb z', cell_below b2 hb z', cell_below b3 hb z', cell_below b4 hb z', Nat.lt_of_lt_of_le z hb.size, Nat.lt_of_lt_of_le z' hb.size, below_up l hb l.size⟩
theorem E2.low {w w' : World} {g g' o : Nat} {x y : Dw} (h : E2 w g g' o x y w') : Below w.heap.size w w' := let ⟨_, _, _, _, _, _, _, _, _, _, _, _, l⟩ := h; l
attribute [local irreducible] World.cell?
set_option maxRecDepth 100000 in
set_option maxHeartbeats 1600000 in
theorem toDs (a0 : Option Addr) (cap : Nat) (l : List Dw) (w : World) (hin : DsIn w w.heap.size a0 l) (hn2 : l.length ≤ 1048576) :
    Calls Try.prog 54 #[.slice a0 l.length cap] w fun e w' => ∃ v, e = .returned v ∧ DSl w' w.heap.size v l ∧ Below w.heap.size w w' := by
  obtain ⟨i0, hi, hz0, hz1, hz2⟩ := info_parts infoDw
  have Hin := Lib.hid hin
  clear hin
  go_enter Try.func54, Try.ntmps54
  go_wp2_with (first | (at_make; refine wpList_make_full _ rfl _ _ 31 rfl w.heap.size 86 i0 (.agg #[.int .i64 0, .int .i64 0, .int .i64 0, .int .i64 0, .int .i64 0]) 5 Try.underlying31 hi hz0 hz1 .i64 .i64 l.length l.length l.length rfl rfl rfl rfl (by rw [hz2]; omega) (by unfold maxLen; omega) (Nat.le_refl _) ?_))
  intro w1 hown hgrow
  have hb1 : Below w.heap.size w w1 := (Below.refl _ _).grown hgrow (Nat.le_refl _) (fun k hk => by cases hk)
  have hrow1 : DRow w1 w.heap.size (List.replicate l.length .zero) := by
    rcases hown.2 with ⟨h, _⟩ | ⟨g, cap, cur, hv, hb, hg, _, _, hs, ht⟩
    · cases h
    · obtain ⟨rfl, rfl⟩ : g = w.heap.size ∧ cap = l.length := by injection hv with hv _ hv2; injection hv with hv; injection hv with hv; exact ⟨hv.symm, hv2.symm⟩
      exact ⟨cur, hg, by rw [List.length_replicate, ht, made_flat]⟩
  have Hb1 := Lib.hid hb1
  have Hrow1 := Lib.hid hrow1
  clear hown hgrow hb1 hrow1
  go_wp2_with fail
  go_loopw [4] (fun i wr => ∃ j : Nat, j ≤ l.length ∧ i = .int .i64 j ∧ Hid (DRow wr w.heap.size (l.take j ++ List.replicate (l.length - j) .zero)) ∧ Hid (Below w.heap.size w wr)) (fun i _ => l.length - (intOf i).toNat)
  case atStart => exact ⟨0, Nat.zero_le _, rfl, by simpa using Hrow1, Hb1⟩
  case round =>
    obtain ⟨j, hj, rfl, Hrow, Hb⟩ := hrel
    by_cases hlt : j < l.length
    · obtain ⟨b, off, rfl, hbB, hcells⟩ := (Hin.out.below Hb.out).2.2 (by omega)
      obtain ⟨x, hx⟩ : ∃ x, l[j]? = some x := ⟨l[j], List.getElem?_eq_getElem hlt⟩
      obtain ⟨c0, c1, c2, c3, c4⟩ := hcells j x hx
      have Hd := Lib.hid (toD x wr)
      clear hcells
      go_wp2_with fail
      refine (Hd.out).mono ?_
      rintro e w2 ⟨rfl, hb2⟩
      have hr2 := Hrow.out.below hb2 Hrow.out.lt
      obtain ⟨e0, e1, e2, e3, e4⟩ := hr2.cells (half_at hlt)
      have f1 := fun o => hr2.free o
      have hr3 := hr2.put j (by simp; omega) x
      rw [half_set hx] at hr3
      have Hr3 := Lib.hid hr3
      have Hb2 := Lib.hid (Hb.out.trans (hb2.mono Hb.out.size))
      clear hr3 hr2 hb2 Hrow Hd
      go_wp2_with fail
      go_roundw
      case rel =>
        refine ⟨j + 1, by omega, by go_num, Hr3, ?_⟩
        have := Hb2.out
        show Below _ _ _
        go_grown
      case measure => simp [intOf]; omega
    · obtain rfl : j = l.length := by omega
      go_wp2_with fail
      go_ret
      refine ⟨_, rfl, ⟨_, _, rfl, Nat.le_refl _, fun _ => ⟨_, rfl, Nat.le_refl _, ?_⟩⟩, Hb.out⟩
      simpa using Hrow.out
set_option maxRecDepth 100000 in
set_option maxHeartbeats 1600000 in
theorem eqDs (B C : Nat) (v u : Value) (l : List Dw) (w : World) (hv : DSl w B v l) (hu : DSl w C u l) (hm : l.length ≤ 1048576) :
    Calls Try.prog 56 #[v, u] w fun e w' => e = .returned (.bool true) ∧ Below w.heap.size w w' := by
  obtain ⟨a, cap, rfl, hcap, hr⟩ := hv
  obtain ⟨a', cap', rfl, hcap', hr'⟩ := hu
  have Hr := Lib.hid hr
  have Hr' := Lib.hid hr'
  clear hr hr'
  go_enter Try.func56, Try.ntmps56
  go_wp2_with fail
  go_loopw [5] (fun i wr => ∃ j : Nat, j ≤ l.length ∧ i = .int .i64 j ∧ Hid (Below w.heap.size w wr)) (fun i _ => l.length - (intOf i).toNat)
  case atStart => exact ⟨0, Nat.zero_le _, rfl, Below.refl _ _⟩
  case round =>
    obtain ⟨j, hj, rfl, Hb⟩ := hrel
    by_cases hlt : j < l.length
    · obtain ⟨g, rfl, _, hrow⟩ := Hr.out (by omega)
      obtain ⟨g', rfl, _, hrow'⟩ := Hr'.out (by omega)
      obtain ⟨x, hx⟩ : ∃ x, l[j]? = some x := ⟨l[j], List.getElem?_eq_getElem hlt⟩
      have r1 := hrow.below Hb.out hrow.lt
      have r2 := hrow'.below Hb.out hrow'.lt
      obtain ⟨c0, c1, c2, c3, c4⟩ := r1.cells hx
      obtain ⟨d0, d1, d2, d3, d4⟩ := r2.cells hx
      have He := Lib.hid (eqDw x)
      have hS : E2 w g g' (j * 5) x x wr := ⟨c0, c1, c2, c3, c4, d0, d1, d2, d3, d4, r1.lt, r2.lt, Hb.out⟩
      go_upto_region 6 with fail
      go_region_held3 (fun w' => w'.cell? ⟨g, j * 5, none⟩ = some (.int .i64 x.n.a) ∧ w'.cell? ⟨g, j * 5 + 1, none⟩ = some (.int .i64 x.n.b) ∧ w'.cell? ⟨g, j * 5 + 2, none⟩ = some (.int .i64 x.n.c) ∧ w'.cell? ⟨g, j * 5 + 3, none⟩ = some (.int .i64 x.n.d) ∧ w'.cell? ⟨g, j * 5 + 4, none⟩ = some (.int .i64 x.e) ∧ w'.cell? ⟨g', j * 5, none⟩ = some (.int .i64 x.n.a) ∧ w'.cell? ⟨g', j * 5 + 1, none⟩ = some (.int .i64 x.n.b) ∧ w'.cell? ⟨g', j * 5 + 2, none⟩ = some (.int .i64 x.n.c) ∧ w'.cell? ⟨g', j * 5 + 3, none⟩ = some (.int .i64 x.n.d) ∧ w'.cell? ⟨g', j * 5 + 4, none⟩ = some (.int .i64 x.e) ∧ g < w'.heap.size ∧ g' < w'.heap.size ∧ Below w.heap.size w w') (first | (show E2 w g g' (j * 5) x x _; (with_reducible exact hS.drew)) | (show E2 w g g' (j * 5) x x _; (with_reducible refine E2.below ?_ hbR); first | assumption | exact ⟨by assumption, by assumption, by assumption, by assumption, by assumption, by assumption, by assumption, by assumption, by assumption, by assumption, by assumption, by assumption, by assumption⟩))
        (first | (go_at_call 107; (with_reducible refine (He.out _).mono ?_); rintro e wR ⟨rfl, hbR⟩))
      have Hb2 := Lib.hid (below_up Hb.out.drew hbR Hb.out.size)
      go_wp2_with fail
      go_roundw
      case rel => exact ⟨j + 1, by omega, by go_num, Hb2⟩
      case measure => simp [intOf]; omega
    · obtain rfl : j = l.length := by omega
      go_wp2_with fail
      go_ret
      exact ⟨rfl, Hb.out⟩
end Go.Proofs.Ytkcpemkahkkcmaa
namespace Go.Proofs.Ytkcpemkahkkcmaa
open Go.RowKit
instance : DecidableEq Dw := fun x y => decidable_of_iff (eqDB x y = true) eqDB_iff
/-- The number of qubits of a state with n amplitudes, or 0. -/
def qc (n : Nat) : Int := if n = 2 then 1 else if n = 4 then 2 else if n = 8 then 3 else if n = 16 then 4 else 0
theorem qc_range (n : Nat) : 0 ≤ qc n ∧ qc n ≤ 4 := by unfold qc; repeat' split; all_goals omega
theorem qc_len {n : Nat} (h : 0 < qc n) : n = 2 ∨ n = 4 ∨ n = 8 ∨ n = 16 := by
  unfold qc at h
  repeat' split at h
  all_goals first | omega | simp_all
/-- IsValidState. -/
def stB (l : List Dw) : Bool := l.all okD && decide (0 < qc l.length)
theorem stB_iff {l : List Dw} : stB l = true ↔ (∀ x ∈ l, x.ok) ∧ 0 < qc l.length := by
  unfold stB
  rw [Bool.and_eq_true, List.all_eq_true, decide_eq_true_eq]
  exact ⟨fun h => ⟨fun x hx => okD_true.1 (h.1 x hx), h.2⟩, fun h => ⟨fun x hx => okD_true.2 (h.1 x hx), h.2⟩⟩
theorem stB_len {l : List Dw} (h : stB l = true) : l.length ≤ 16 := by have := qc_len (stB_iff.1 h).2; omega
/-- BasisState. -/
def basisL (n i : Int) : List Dw := if 1 ≤ n ∧ n ≤ 4 ∧ 0 ≤ i ∧ i ≤ 2 ^ n.toNat - 1 then (List.replicate (2 ^ n.toNat) .zero).set i.toNat oneD else []
end Go.Proofs.Ytkcpemkahkkcmaa
namespace Go.Proofs.Ytkcpemkahkkcmaa
open Go.RowKit
theorem qc_cases (n : Nat) : (n = 2 ∧ qc n = 1) ∨ (n = 4 ∧ qc n = 2) ∨ (n = 8 ∧ qc n = 3) ∨ (n = 16 ∧ qc n = 4) ∨ (n ≠ 2 ∧ n ≠ 4 ∧ n ≠ 8 ∧ n ≠ 16 ∧ qc n = 0) := by
  unfold qc
  by_cases h2 : n = 2
  · simp [h2]
  · by_cases h4 : n = 4
    · simp [h4]
    · by_cases h8 : n = 8
      · simp [h8]
      · by_cases h16 : n = 16
        · simp [h16]
        · simp [h2, h4, h8, h16]
set_option maxRecDepth 100000 in
set_option maxHeartbeats 800000 in
theorem squbits (a : Option Addr) (n cap : Nat) (w : World) :
    Calls Try.prog 22 #[.slice a n cap] w fun e w' => e = .returned (.int .i64 (qc n)) ∧ w = w' := by
  rcases qc_cases n with ⟨rfl, h⟩ | ⟨rfl, h⟩ | ⟨rfl, h⟩ | ⟨rfl, h⟩ | ⟨h2, h4, h8, h16, h⟩
  · rw [h]
    go_enter Try.func22, Try.ntmps22
    go_wp2_with fail
    go_rounds 5
    go_ret
    exact ⟨rfl, rfl⟩
  · rw [h]
    go_enter Try.func22, Try.ntmps22
    go_wp2_with fail
    go_rounds 5
    go_ret
    exact ⟨rfl, rfl⟩
  · rw [h]
    go_enter Try.func22, Try.ntmps22
    go_wp2_with fail
    go_rounds 5
    go_ret
    exact ⟨rfl, rfl⟩
  · rw [h]
    go_enter Try.func22, Try.ntmps22
    go_wp2_with fail
    go_rounds 5
    go_ret
    exact ⟨rfl, rfl⟩
  · rw [h]
    have e2 : ((n : Int) == 2) = false := by simp; omega
    have e4 : ((n : Int) == 4) = false := by simp; omega
    have e8 : ((n : Int) == 8) = false := by simp; omega
    have e16 : ((n : Int) == 16) = false := by simp; omega
    clear h2 h4 h8 h16 h
    go_enter Try.func22, Try.ntmps22
    go_wp2_with fail
    go_rounds 5
    go_ret
    exact ⟨rfl, rfl⟩
theorem all_take {α : Type} {p : α → Bool} {l : List α} {j : Nat} {x : α} (hx : l[j]? = some x) (h : (l.take j).all p = true) : (l.take (j + 1)).all p = p x := by
  rw [List.take_add_one, hx, List.all_append, h]
  simp
theorem all_no {α : Type} {p : α → Bool} {l : List α} {j : Nat} {x : α} (hx : l[j]? = some x) (h : p x = false) : l.all p = false := by
  rw [List.all_eq_false]
  exact ⟨x, List.mem_of_getElem? hx, by simp [h]⟩
attribute [local irreducible] World.cell?
set_option maxRecDepth 100000 in
set_option maxHeartbeats 1600000 in
theorem svalidSt (B : Nat) (v : Value) (l : List Dw) (w : World) (hv : DSl w B v l) (hm : l.length ≤ 1048576) :
    Calls Try.prog 79 #[v] w fun e w' => e = .returned (.bool (stB l)) ∧ Below w.heap.size w w' := by
  obtain ⟨a, cap, rfl, hcap, hr⟩ := hv
  have Hr := Lib.hid hr
  clear hr
  have Hst := Lib.hid (show stB l = (l.all okD && decide (0 < qc l.length)) from rfl)
  generalize stB l = S at *
  have hqr := qc_range l.length
  go_enter Try.func79, Try.ntmps79
  go_wp2_with fail
  go_loopw [3] (fun i wr => ∃ j : Nat, j ≤ l.length ∧ i = .int .i64 j ∧ Hid ((l.take j).all okD = true) ∧ Hid (Below w.heap.size w wr)) (fun i _ => l.length - (intOf i).toNat)
  case atStart => exact ⟨0, Nat.zero_le _, rfl, Lib.hid (by simp), Below.refl _ _⟩
  case round =>
    obtain ⟨j, hj, rfl, Hall, Hb⟩ := hrel
    by_cases hlt : j < l.length
    · obtain ⟨g, rfl, _, hrow⟩ := Hr.out (by omega)
      obtain ⟨x, hx⟩ : ∃ x, l[j]? = some x := ⟨l[j], List.getElem?_eq_getElem hlt⟩
      have r1 := hrow.below Hb.out hrow.lt
      obtain ⟨c0, c1, c2, c3, c4⟩ := r1.cells hx
      have Hv := Lib.hid (svalidD x wr)
      have Hx := Lib.hid hx
      clear hx r1 hrow
      cases ho : okD x with
      | false =>
        rw [ho] at Hv
        have hS : S = false := by rw [Hst.out, all_no Hx.out ho]; rfl
        subst hS
        go_wp2_with fail
        refine (Hv.out).mono ?_
        rintro e w2 ⟨rfl, hb2⟩
        have Hb2 := Lib.hid (Hb.out.trans (hb2.mono Hb.out.size))
        clear hb2
        go_wp2_with fail
        go_ret
        exact ⟨rfl, Hb2.out⟩
      | true =>
        rw [ho] at Hv
        go_wp2_with fail
        refine (Hv.out).mono ?_
        rintro e w2 ⟨rfl, hb2⟩
        have Hb2 := Lib.hid (Hb.out.trans (hb2.mono Hb.out.size))
        clear hb2
        go_wp2_with fail
        go_roundw
        case rel => exact ⟨j + 1, by omega, by go_num, (all_take Hx.out Hall.out).trans ho, Hb2⟩
        case measure => simp [intOf]; omega
    · obtain rfl : j = l.length := by omega
      have hall : l.all okD = true := by have := Hall.out; rwa [List.take_length] at this
      have hS : S = decide (0 < qc l.length) := by rw [Hst.out, hall]; rfl
      subst hS
      have Hq := Lib.hid (squbits a l.length cap wr)
      go_wp2_with fail
      refine (Hq.out).mono ?_
      rintro e w2 ⟨rfl, rfl⟩
      go_wp2_with fail
      go_ret
      exact ⟨rfl, Hb.out⟩
end Go.Proofs.Ytkcpemkahkkcmaa
namespace Go.Proofs.Ytkcpemkahkkcmaa
open Go.RowKit
/-- 1 over the k-th power of the root of 2, or zero past the limits. -/
def isV (k : Int) : Dw := if 0 ≤ k ∧ k ≤ 60 then ⟨⟨1, 0, 0, 0⟩, k⟩ else .zero
theorem isV_new (k : Int) : newV ⟨1, 0, 0, 0⟩ k = isV k := by
  have hd : divB ⟨1, 0, 0, 0⟩ = false := by decide
  have hr : ∀ n : Nat, red n ⟨1, 0, 0, 0⟩ = (⟨1, 0, 0, 0⟩, n) := by
    intro n
    cases n with
    | zero => rfl
    | succ n => unfold red; rw [hd]; rfl
  by_cases h : 0 ≤ k ∧ k ≤ 60
  · have hb : newB ⟨1, 0, 0, 0⟩ k = true := newB_iff.2 ⟨by decide, h.1, by omega, by rw [hr]; show k.toNat ≤ 60; omega⟩
    rw [newV_of hb, hr, show isV k = ⟨⟨1, 0, 0, 0⟩, k⟩ from if_pos h]
    simp only [Dw.mk.injEq, true_and]
    omega
  · have hb : newB ⟨1, 0, 0, 0⟩ k = false := by
      rw [Bool.eq_false_iff]
      intro hb
      obtain ⟨_, h0, h1, h2⟩ := newB_iff.1 hb
      rw [hr] at h2
      exact h ⟨h0, by have : k.toNat ≤ 60 := h2; omega⟩
    rw [show isV k = .zero from if_neg h, newV, if_neg (by rw [hb]; decide)]
attribute [local irreducible] World.cell?
set_option maxRecDepth 100000 in
set_option maxHeartbeats 800000 in
theorem sinv (k : Int) (w : World) :
    Calls Try.prog 137 #[.int .i64 k] w fun e w' => e = .returned (.agg #[.int .i64 (isV k).n.a, .int .i64 (isV k).n.b, .int .i64 (isV k).n.c, .int .i64 (isV k).n.d, .int .i64 (isV k).e]) ∧ Below w.heap.size w w' := by
  have Hi := Lib.hid (fun w => lin_any k 0 60 (decide (0 ≤ k ∧ k ≤ 60)) w rfl)
  by_cases h : 0 ≤ k ∧ k ≤ 60
  · rw [decide_eq_true h] at Hi
    rw [show isV k = ⟨⟨1, 0, 0, 0⟩, k⟩ from if_pos h]
    clear h
    go_enter Try.func137, Try.ntmps137
    go_wp2_with fail
    refine (Hi.out _).mono ?_
    rintro e wx ⟨rfl, rfl⟩
    go_wp2_with fail
    refine bodyPost_ret (v := (.agg #[.int .i64 (Dw.mk ⟨1, 0, 0, 0⟩ k).n.a, .int .i64 (Dw.mk ⟨1, 0, 0, 0⟩ k).n.b, .int .i64 (Dw.mk ⟨1, 0, 0, 0⟩ k).n.c, .int .i64 (Dw.mk ⟨1, 0, 0, 0⟩ k).n.d, .int .i64 (Dw.mk ⟨1, 0, 0, 0⟩ k).e])) (by simp [results, Try.results137, go_sem]) rfl ⟨rfl, ?_⟩
    go_grown
  · rw [decide_eq_false h] at Hi
    rw [show isV k = .zero from if_neg h]
    clear h
    go_enter Try.func137, Try.ntmps137
    go_wp2_with fail
    refine (Hi.out _).mono ?_
    rintro e wx ⟨rfl, rfl⟩
    go_wp2_with fail
    refine bodyPost_ret (v := (.agg #[.int .i64 Dw.zero.n.a, .int .i64 Dw.zero.n.b, .int .i64 Dw.zero.n.c, .int .i64 Dw.zero.n.d, .int .i64 Dw.zero.e])) (by simp [results, Try.results137, go_sem, Dw.zero, Zw.zero]) rfl ⟨rfl, ?_⟩
    go_grown
set_option maxRecDepth 100000 in
set_option maxHeartbeats 800000 in
theorem iinv (k : Int) (w : World) (h0 : -9223372036854775808 ≤ k) (h1 : k ≤ 9223372036854775807) :
    Calls Try.prog 178 #[.int .i64 k] w fun e w' => e = .returned (.agg #[.int .i64 (isV k).n.a, .int .i64 (isV k).n.b, .int .i64 (isV k).n.c, .int .i64 (isV k).n.d, .int .i64 (isV k).e]) ∧ Below w.heap.size w w' := by
  have Hn := Lib.hid (fun w => inew_any ⟨1, 0, 0, 0⟩ k w h0 h1)
  rw [isV_new] at Hn
  generalize isV k = r at *
  generalize newB ⟨1, 0, 0, 0⟩ k = t at *
  have Hr0 := Lib.hid (heap_alloc_new w (.cells #[.int .i64 0, .int .i64 0, .int .i64 0, .int .i64 0, .int .i64 0] 86))
  go_enter Try.func178, Try.ntmps178
  go_wp2_with fail
  refine (Hn.out _).mono ?_
  rintro e w1 ⟨rfl, hb1⟩
  have hr0 := below_blk hb1 (lt_of_block Hr0.out) Hr0.out
  obtain ⟨e0, e1, e2, e3, e4⟩ := blk_cells5 hr0
  have f1 := fun o => free_at hr0 o
  have zk := lt_of_block hr0
  have Hq := Lib.hid hr0
  have Hb1 := Lib.hid (below_up (B := w.heap.size) (w := w) (by go_grown) hb1 (by simp))
  clear hb1 hr0
  go_wp2_with fail
  obtain ⟨k0, k1, k2, k3, k4⟩ := blk_cells5 (alloc_blk (.cells #[.int .i64 r.n.a, .int .i64 r.n.b, .int .i64 r.n.c, .int .i64 r.n.d, .int .i64 r.e] 86) (set5_at (u0 := .int .i64 r.n.a) (u1 := .int .i64 r.n.b) (u2 := .int .i64 r.n.c) (u3 := .int .i64 r.n.d) (u4 := .int .i64 r.e) Hq.out))
  refine bodyPost_ret (v := (.agg #[.int .i64 r.n.a, .int .i64 r.n.b, .int .i64 r.n.c, .int .i64 r.n.d, .int .i64 r.e])) (by simp only [results, Try.results178]; simp [go_sem, k0, k1, k2, k3, k4]) rfl ⟨rfl, ?_⟩
  have := Hb1.out
  go_grown
end Go.Proofs.Ytkcpemkahkkcmaa
namespace Go.Proofs.Ytkcpemkahkkcmaa
def EB (x : Dw) : Prop := -9223372036854775808 ≤ x.e ∧ x.e ≤ 9223372036854775807
theorem eb_ok {x : Dw} (h : x.ok) : EB x := by have := h.2; unfold EB; omega
theorem eb_zero : EB .zero := ⟨(by decide : (-9223372036854775808 : Int) ≤ 0), (by decide : (0 : Int) ≤ 9223372036854775807)⟩
theorem eb_mul (x y : Dw) : EB (dMulV x y) := by
  cases h : dMulB x y
  · rw [dMulV_no h]; exact eb_zero
  · exact eb_ok (dMulV_ok h)
theorem eb_conj (x : Dw) : EB (dConjV x) := by
  by_cases h : x.ok
  · rw [show dConjV x = x.conj from if_pos h]; exact eb_ok (dconj_ok.2 h)
  · rw [dConj_no h]; exact eb_zero
end Go.Proofs.Ytkcpemkahkkcmaa
namespace Go.Proofs.Ytkcpemkahkkcmaa
open Go.RowKit
def amB (s x f : Dw) : Bool := dMulB x f && dAddB s (dMulV x f)
def amV (s x f : Dw) : Dw := if amB s x f then dAddV s (dMulV x f) else .zero
attribute [local irreducible] World.cell?
set_option maxRecDepth 100000 in
set_option maxHeartbeats 3200000 in
theorem iaddM (s x f : Dw) (w : World) (hs : EB s) (hx : EB x) (hf : EB f) :
    Calls Try.prog 106 #[(.agg #[.int .i64 s.n.a, .int .i64 s.n.b, .int .i64 s.n.c, .int .i64 s.n.d, .int .i64 s.e]), (.agg #[.int .i64 x.n.a, .int .i64 x.n.b, .int .i64 x.n.c, .int .i64 x.n.d, .int .i64 x.e]), (.agg #[.int .i64 f.n.a, .int .i64 f.n.b, .int .i64 f.n.c, .int .i64 f.n.d, .int .i64 f.e])] w fun e w' => e = .returned (.tuple #[(.agg #[.int .i64 (amV s x f).n.a, .int .i64 (amV s x f).n.b, .int .i64 (amV s x f).n.c, .int .i64 (amV s x f).n.d, .int .i64 (amV s x f).e]), .bool (amB s x f)]) ∧ Below w.heap.size w w' := by
  have Hm := Lib.hid (fun w => imulD_any x f w hx.1 hx.2 hf.1 hf.2)
  have hp := eb_mul x f
  have Ha := Lib.hid (fun w => iaddD_any s (dMulV x f) w hs.1 hs.2 hp.1 hp.2)
  have HB := Lib.hid (show amB s x f = (dMulB x f && dAddB s (dMulV x f)) from rfl)
  have HV := Lib.hid (show dMulB x f = true → amV s x f = dAddV s (dMulV x f) from fun h => by
    unfold amV amB
    rw [h, Bool.true_and]
    split
    · rfl
    · rename_i h2
      unfold dAddV
      rw [if_neg h2])
  have HN := Lib.hid (show dMulB x f = false → amV s x f = .zero from fun h => by unfold amV amB; rw [h]; rfl)
  clear hs hx hf hp
  generalize amV s x f = R at *
  generalize amB s x f = T at *
  generalize dAddB s (dMulV x f) = u at *
  generalize dAddV s (dMulV x f) = r at *
  generalize dMulV x f = P at *
  generalize dMulB x f = t at *
  have Hr0_0 := Lib.hid (alloc_blk (.cells #[.int .i64 0, .int .i64 0, .int .i64 0, .int .i64 0, .int .i64 0] 86) (alloc_blk (.cells #[.int .i64 f.n.a, .int .i64 f.n.b, .int .i64 f.n.c, .int .i64 f.n.d, .int .i64 f.e] 86) (alloc_blk (.cells #[.int .i64 x.n.a, .int .i64 x.n.b, .int .i64 x.n.c, .int .i64 x.n.d, .int .i64 x.e] 86) (heap_alloc_new w (.cells #[.int .i64 s.n.a, .int .i64 s.n.b, .int .i64 s.n.c, .int .i64 s.n.d, .int .i64 s.e] 86)))))
  have Hr0_1 := Lib.hid (alloc_blk (.cells #[.int .i64 0, .int .i64 0, .int .i64 0, .int .i64 0, .int .i64 0] 86) (alloc_blk (.cells #[.int .i64 f.n.a, .int .i64 f.n.b, .int .i64 f.n.c, .int .i64 f.n.d, .int .i64 f.e] 86) (show ((w.alloc (.cells #[.int .i64 s.n.a, .int .i64 s.n.b, .int .i64 s.n.c, .int .i64 s.n.d, .int .i64 s.e] 86)).alloc (.cells #[.int .i64 x.n.a, .int .i64 x.n.b, .int .i64 x.n.c, .int .i64 x.n.d, .int .i64 x.e] 86)).heap[w.heap.size + 1]? = some (.cells #[.int .i64 x.n.a, .int .i64 x.n.b, .int .i64 x.n.c, .int .i64 x.n.d, .int .i64 x.e] 86 (0, 0)) from by simpa using heap_alloc_new (w.alloc (.cells #[.int .i64 s.n.a, .int .i64 s.n.b, .int .i64 s.n.c, .int .i64 s.n.d, .int .i64 s.e] 86)) (.cells #[.int .i64 x.n.a, .int .i64 x.n.b, .int .i64 x.n.c, .int .i64 x.n.d, .int .i64 x.e] 86))))
  have Hr0_2 := Lib.hid (alloc_blk (.cells #[.int .i64 0, .int .i64 0, .int .i64 0, .int .i64 0, .int .i64 0] 86) (show (((w.alloc (.cells #[.int .i64 s.n.a, .int .i64 s.n.b, .int .i64 s.n.c, .int .i64 s.n.d, .int .i64 s.e] 86)).alloc (.cells #[.int .i64 x.n.a, .int .i64 x.n.b, .int .i64 x.n.c, .int .i64 x.n.d, .int .i64 x.e] 86)).alloc (.cells #[.int .i64 f.n.a, .int .i64 f.n.b, .int .i64 f.n.c, .int .i64 f.n.d, .int .i64 f.e] 86)).heap[w.heap.size + 2]? = some (.cells #[.int .i64 f.n.a, .int .i64 f.n.b, .int .i64 f.n.c, .int .i64 f.n.d, .int .i64 f.e] 86 (0, 0)) from by simpa using heap_alloc_new ((w.alloc (.cells #[.int .i64 s.n.a, .int .i64 s.n.b, .int .i64 s.n.c, .int .i64 s.n.d, .int .i64 s.e] 86)).alloc (.cells #[.int .i64 x.n.a, .int .i64 x.n.b, .int .i64 x.n.c, .int .i64 x.n.d, .int .i64 x.e] 86)) (.cells #[.int .i64 f.n.a, .int .i64 f.n.b, .int .i64 f.n.c, .int .i64 f.n.d, .int .i64 f.e] 86)))
  have Hr0_3 := Lib.hid (show ((((w.alloc (.cells #[.int .i64 s.n.a, .int .i64 s.n.b, .int .i64 s.n.c, .int .i64 s.n.d, .int .i64 s.e] 86)).alloc (.cells #[.int .i64 x.n.a, .int .i64 x.n.b, .int .i64 x.n.c, .int .i64 x.n.d, .int .i64 x.e] 86)).alloc (.cells #[.int .i64 f.n.a, .int .i64 f.n.b, .int .i64 f.n.c, .int .i64 f.n.d, .int .i64 f.e] 86)).alloc (.cells #[.int .i64 0, .int .i64 0, .int .i64 0, .int .i64 0, .int .i64 0] 86)).heap[w.heap.size + 3]? = some (.cells #[.int .i64 0, .int .i64 0, .int .i64 0, .int .i64 0, .int .i64 0] 86 (0, 0)) from by simpa using heap_alloc_new (((w.alloc (.cells #[.int .i64 s.n.a, .int .i64 s.n.b, .int .i64 s.n.c, .int .i64 s.n.d, .int .i64 s.e] 86)).alloc (.cells #[.int .i64 x.n.a, .int .i64 x.n.b, .int .i64 x.n.c, .int .i64 x.n.d, .int .i64 x.e] 86)).alloc (.cells #[.int .i64 f.n.a, .int .i64 f.n.b, .int .i64 f.n.c, .int .i64 f.n.d, .int .i64 f.e] 86)) (.cells #[.int .i64 0, .int .i64 0, .int .i64 0, .int .i64 0, .int .i64 0] 86))
  cases t
  · obtain rfl : T = false := HB.out
    obtain rfl := HN.out rfl
    go_enter Try.func106, Try.ntmps106
    go_wp2_with fail
    refine (Hm.out _).mono ?_
    rintro e w1 ⟨rfl, hb1⟩
    have hr0 := below_blk hb1 (lt_of_block Hr0_0.out) Hr0_0.out
    have zg0 := lt_of_block hr0
    obtain ⟨c0_0, c0_1, c0_2, c0_3, c0_4⟩ := blk_cells5 hr0
    have Hr1_0 := Lib.hid (alloc_blk (.cells #[.int .i64 P.n.a, .int .i64 P.n.b, .int .i64 P.n.c, .int .i64 P.n.d, .int .i64 P.e] 86) hr0)
    have hr1 := below_blk hb1 (lt_of_block Hr0_1.out) Hr0_1.out
    have zg1 := lt_of_block hr1
    obtain ⟨c1_0, c1_1, c1_2, c1_3, c1_4⟩ := blk_cells5 hr1
    have Hr1_1 := Lib.hid (alloc_blk (.cells #[.int .i64 P.n.a, .int .i64 P.n.b, .int .i64 P.n.c, .int .i64 P.n.d, .int .i64 P.e] 86) hr1)
    have hr2 := below_blk hb1 (lt_of_block Hr0_2.out) Hr0_2.out
    have zg2 := lt_of_block hr2
    obtain ⟨c2_0, c2_1, c2_2, c2_3, c2_4⟩ := blk_cells5 hr2
    have Hr1_2 := Lib.hid (alloc_blk (.cells #[.int .i64 P.n.a, .int .i64 P.n.b, .int .i64 P.n.c, .int .i64 P.n.d, .int .i64 P.e] 86) hr2)
    have hr3 := below_blk hb1 (lt_of_block Hr0_3.out) Hr0_3.out
    have zg3 := lt_of_block hr3
    obtain ⟨c3_0, c3_1, c3_2, c3_3, c3_4⟩ := blk_cells5 hr3
    have f3 := fun o => free_at hr3 o
    have Hq1_3 := Lib.hid hr3
    have Hr1_3 := Lib.hid (alloc_blk (.cells #[.int .i64 P.n.a, .int .i64 P.n.b, .int .i64 P.n.c, .int .i64 P.n.d, .int .i64 P.e] 86) hr3)
    have hb1 := below_up (B := w.heap.size) (w := w) (by go_grown) hb1 (by simp <;> omega)
    have Hp1 := Lib.hid hb1
    have Hb1 := Lib.hid (Below.alloc hb1 (Below.size hb1) (.cells #[.int .i64 P.n.a, .int .i64 P.n.b, .int .i64 P.n.c, .int .i64 P.n.d, .int .i64 P.e] 86))
    have Hr1_4 := Lib.hid (heap_alloc_new w1 (.cells #[.int .i64 P.n.a, .int .i64 P.n.b, .int .i64 P.n.c, .int .i64 P.n.d, .int .i64 P.e] 86))
    clear hr0 hr1 hr2 hr3
    clear hb1
    go_wp2_with fail
    obtain ⟨k0, k1, k2, k3, k4⟩ := blk_cells5 (alloc_blk (.cells #[.int .i64 P.n.a, .int .i64 P.n.b, .int .i64 P.n.c, .int .i64 P.n.d, .int .i64 P.e] 86) (set5_at (u0 := .int .i64 0) (u1 := .int .i64 0) (u2 := .int .i64 0) (u3 := .int .i64 0) (u4 := .int .i64 0) Hq1_3.out))
    refine bodyPost_ret (v := .tuple #[(.agg #[.int .i64 Dw.zero.n.a, .int .i64 Dw.zero.n.b, .int .i64 Dw.zero.n.c, .int .i64 Dw.zero.n.d, .int .i64 Dw.zero.e]), .bool false]) (by simp only [results, Try.results106]; simp [go_sem, k0, k1, k2, k3, k4, Dw.zero, Zw.zero]) rfl ⟨rfl, ?_⟩
    have := Hp1.out
    go_grown
  · obtain rfl : T = u := HB.out
    obtain rfl := HV.out rfl
    go_enter Try.func106, Try.ntmps106
    go_wp2_with fail
    refine (Hm.out _).mono ?_
    rintro e w1 ⟨rfl, hb1⟩
    have hr0 := below_blk hb1 (lt_of_block Hr0_0.out) Hr0_0.out
    have zg0 := lt_of_block hr0
    obtain ⟨c0_0, c0_1, c0_2, c0_3, c0_4⟩ := blk_cells5 hr0
    have Hr1_0 := Lib.hid (alloc_blk (.cells #[.int .i64 P.n.a, .int .i64 P.n.b, .int .i64 P.n.c, .int .i64 P.n.d, .int .i64 P.e] 86) hr0)
    have hr1 := below_blk hb1 (lt_of_block Hr0_1.out) Hr0_1.out
    have zg1 := lt_of_block hr1
    obtain ⟨c1_0, c1_1, c1_2, c1_3, c1_4⟩ := blk_cells5 hr1
    have Hr1_1 := Lib.hid (alloc_blk (.cells #[.int .i64 P.n.a, .int .i64 P.n.b, .int .i64 P.n.c, .int .i64 P.n.d, .int .i64 P.e] 86) hr1)
    have hr2 := below_blk hb1 (lt_of_block Hr0_2.out) Hr0_2.out
    have zg2 := lt_of_block hr2
    obtain ⟨c2_0, c2_1, c2_2, c2_3, c2_4⟩ := blk_cells5 hr2
    have Hr1_2 := Lib.hid (alloc_blk (.cells #[.int .i64 P.n.a, .int .i64 P.n.b, .int .i64 P.n.c, .int .i64 P.n.d, .int .i64 P.e] 86) hr2)
    have hr3 := below_blk hb1 (lt_of_block Hr0_3.out) Hr0_3.out
    have zg3 := lt_of_block hr3
    obtain ⟨c3_0, c3_1, c3_2, c3_3, c3_4⟩ := blk_cells5 hr3
    have f3 := fun o => free_at hr3 o
    have Hq1_3 := Lib.hid hr3
    have Hr1_3 := Lib.hid (alloc_blk (.cells #[.int .i64 P.n.a, .int .i64 P.n.b, .int .i64 P.n.c, .int .i64 P.n.d, .int .i64 P.e] 86) hr3)
    have hb1 := below_up (B := w.heap.size) (w := w) (by go_grown) hb1 (by simp <;> omega)
    have Hp1 := Lib.hid hb1
    have Hb1 := Lib.hid (Below.alloc hb1 (Below.size hb1) (.cells #[.int .i64 P.n.a, .int .i64 P.n.b, .int .i64 P.n.c, .int .i64 P.n.d, .int .i64 P.e] 86))
    have Hr1_4 := Lib.hid (heap_alloc_new w1 (.cells #[.int .i64 P.n.a, .int .i64 P.n.b, .int .i64 P.n.c, .int .i64 P.n.d, .int .i64 P.e] 86))
    clear hr0 hr1 hr2 hr3
    clear hb1
    go_wp2_with fail
    refine (Ha.out _).mono ?_
    rintro e w2 ⟨rfl, hb2⟩
    clear zg0 c0_0 c0_1 c0_2 c0_3 c0_4 zg1 c1_0 c1_1 c1_2 c1_3 c1_4 zg2 c2_0 c2_1 c2_2 c2_3 c2_4 zg3 c3_0 c3_1 c3_2 c3_3 c3_4 f3
    have hr0 := below_blk hb2 (lt_of_block Hr1_0.out) Hr1_0.out
    have zg0 := lt_of_block hr0
    obtain ⟨c0_0, c0_1, c0_2, c0_3, c0_4⟩ := blk_cells5 hr0
    have Hr2_0 := Lib.hid hr0
    have hr1 := below_blk hb2 (lt_of_block Hr1_1.out) Hr1_1.out
    have zg1 := lt_of_block hr1
    obtain ⟨c1_0, c1_1, c1_2, c1_3, c1_4⟩ := blk_cells5 hr1
    have Hr2_1 := Lib.hid hr1
    have hr2 := below_blk hb2 (lt_of_block Hr1_2.out) Hr1_2.out
    have zg2 := lt_of_block hr2
    obtain ⟨c2_0, c2_1, c2_2, c2_3, c2_4⟩ := blk_cells5 hr2
    have Hr2_2 := Lib.hid hr2
    have hr3 := below_blk hb2 (lt_of_block Hr1_3.out) Hr1_3.out
    have zg3 := lt_of_block hr3
    obtain ⟨c3_0, c3_1, c3_2, c3_3, c3_4⟩ := blk_cells5 hr3
    have f3 := fun o => free_at hr3 o
    have Hq2_3 := Lib.hid hr3
    have Hr2_3 := Lib.hid hr3
    have hr4 := below_blk hb2 (lt_of_block Hr1_4.out) Hr1_4.out
    have zg4 := lt_of_block hr4
    obtain ⟨c4_0, c4_1, c4_2, c4_3, c4_4⟩ := blk_cells5 hr4
    have Hr2_4 := Lib.hid hr4
    have hb2 := below_nx Hb1.out hb2
    have Hp2 := Lib.hid hb2
    have Hb2 := Lib.hid hb2
    clear hr0 hr1 hr2 hr3 hr4
    clear hb2
    go_wp2_with fail
    obtain ⟨k0, k1, k2, k3, k4⟩ := blk_cells5 (set5_at (u0 := .int .i64 R.n.a) (u1 := .int .i64 R.n.b) (u2 := .int .i64 R.n.c) (u3 := .int .i64 R.n.d) (u4 := .int .i64 R.e) Hq2_3.out)
    refine bodyPost_ret (v := .tuple #[(.agg #[.int .i64 R.n.a, .int .i64 R.n.b, .int .i64 R.n.c, .int .i64 R.n.d, .int .i64 R.e]), .bool T]) (by simp only [results, Try.results106]; simp [go_sem, k0, k1, k2, k3, k4]) rfl ⟨rfl, ?_⟩
    have := Hp2.out
    go_grown
end Go.Proofs.Ytkcpemkahkkcmaa
namespace Go.Proofs.Ytkcpemkahkkcmaa
open Go.RowKit
attribute [local irreducible] World.cell?
end Go.Proofs.Ytkcpemkahkkcmaa
namespace Go.Proofs.Ytkcpemkahkkcmaa
open Go.RowKit
theorem run_copy_rowN {P : Program} (w : World) (dT sT ty elem : TypeId) (g o dLen dCap : Nat) (a : Addr) (sLen sCap : Nat) (cur : Array Value) (t : TypeId) (cs : List Value) (n size : Nat)
    (hu : P.underlying dT = some (.slice elem)) (hs : (P.info? elem).map (·.size) = some size)
    (hg : w.heap[g]? = some (.cells cur t (0, 0))) (hn : n = Nat.min sLen dLen) (hc : cs.length = n * size)
    (hsrc : ∀ j v, cs[j]? = some v → w.cell? (a.add j) = some v) (hfit : o + cs.length ≤ cur.size) (h1 : ∀ v ∈ cs, v.oneCell' = true) :
    (Builtin.copy_ #[dT, sT] ty #[.slice (some ⟨g, o, none⟩) dLen dCap, .slice (some a) sLen sCap]).run P w =
      .ok (goInt n) (w.setRow g (cur.toList.take o ++ cs ++ cur.toList.drop (o + cs.length)).toArray) := by
  have hl := run_loadCells_list (P := P) w a cs hsrc
  have hst := run_storeCells_at P g o t cs 0 cur w hg (by simpa using hfit) h1
  cases hq : P.info? elem with
  | none => simp [hq] at hs
  | some i =>
    have hi : i.size = size := by simpa [hq] using hs
    simp [Builtin.copy_, run_underlying hu, Builtin.lenOf, Builtin.firstCells, sizeOf, typeInfo, hq, hi, ← hn, ← hc, hl, hst]
/-- A copy as a step of the walk. -/
theorem wpList_copy_N {P : Program} {w : World} {ops : Array Oper} {rest : List Oper} {o : Oper} {a : Act} {Q : Exit → Act → World → Prop} (hgd : o.guard = none) (d s : Operand) (dT sT : TypeId)
    (ho : o.op = .call { callee := .builtin .copy, args := #[d, s], argTypes := #[dT, sT] }) (elem : TypeId) (size : Nat) (hu : P.underlying dT = some (.slice elem)) (hsz : (P.info? elem).map (·.size) = some size)
    (g off dLen dCap : Nat) (ad : Addr) (sLen sCap : Nat) (hd : a.eval d = .slice (some ⟨g, off, none⟩) dLen dCap) (hs : a.eval s = .slice (some ad) sLen sCap)
    (cur : Array Value) (t : TypeId) (hg : w.heap[g]? = some (.cells cur t (0, 0))) (cs : List Value) (n : Nat) (hn : n = Nat.min sLen dLen) (hc : cs.length = n * size)
    (hsrc : ∀ j v, cs[j]? = some v → w.cell? (ad.add j) = some v) (hfit : off + cs.length ≤ cur.size) (h1 : ∀ v ∈ cs, v.oneCell' = true)
    (h : ∀ w', w'.heap[g]? = some (.cells (splice cur.toList off cs).toArray t (0, 0)) → w.grownBy w' (some g) → wpList P ops Q rest (a.put o.dst (goInt n)) w') :
    wpList P ops Q (o :: rest) a w := by
  refine wpList_plain hgd fun K hK => ?_
  have hrun := run_copy_rowN (P := P) w dT sT o.type elem g off dLen dCap ad sLen sCap cur t cs n size hu hsz hg hn hc hsrc hfit h1
  unfold Oper.wp
  simp [execOp, ho, resolve, invoke, builtin, hd, hs, hrun, Result.andThen]
  refine hK _ _ (h _ ?_ ?_)
  · simpa [splice] using setRow_heap w g cur _ t _ hg
  · exact ⟨rfl, rfl, rfl, by simp [World.setRow], fun k _ hk => setRow_other w g k _ (by intro e; exact hk (by rw [e]))⟩
end Go.Proofs.Ytkcpemkahkkcmaa
