/- The laws' own helpers over slices of gates: size, copy, equality, mark; such a slice that comes in. -/
import Derived.Test.YtlmiebeffdcfhaaBaseB11
import Derived.Test.YtlmiebeffdcfhaaBaseB08
import Derived.Test.YtlmiebeffdcfhaaBaseB18
namespace Go.Proofs.Ytlmiebeffdcfhaa
open Go.RowKit
/-- A slice of the laws' gates that came in. -/
def GsIn (w : World) (B : Nat) (a0 : Option Addr) (l : List Gt) : Prop :=
  l.length ≤ maxLen ∧
  (0 < l.length → ∃ b off, a0 = some ⟨b, off, none⟩ ∧ b < B ∧ ∀ j x, l[j]? = some x → w.cell? ⟨b, off + j * 4, none⟩ = some (.int .i64 x.k) ∧ w.cell? ⟨b, off + j * 4 + 1, none⟩ = some (.int .i64 x.a) ∧ w.cell? ⟨b, off + j * 4 + 2, none⟩ = some (.int .i64 x.b) ∧ w.cell? ⟨b, off + j * 4 + 3, none⟩ = some (.int .i64 x.c))
theorem GsIn.below {w w' : World} {B : Nat} {a0 : Option Addr} {l : List Gt} (h : GsIn w B a0 l) (hb : Below B w w') : GsIn w' B a0 l :=
  ⟨h.1, fun h0 => by
    obtain ⟨b, off, e, hlt, hc⟩ := h.2 h0
    refine ⟨b, off, e, hlt, fun j x hx => ?_⟩
    obtain ⟨c0, c1, c2, c3⟩ := hc j x hx
    exact ⟨(hb.cell (by exact hlt)).trans c0, (hb.cell (by exact hlt)).trans c1, (hb.cell (by exact hlt)).trans c2, (hb.cell (by exact hlt)).trans c3⟩⟩
theorem GsIn.mono {w : World} {B C : Nat} {a0 : Option Addr} {l : List Gt} (h : GsIn w B a0 l) (hC : B ≤ C) : GsIn w C a0 l :=
  ⟨h.1, fun h0 => by obtain ⟨b, off, e, hlt, hc⟩ := h.2 h0; exact ⟨b, off, e, by omega, hc⟩⟩
theorem GsIn.of_sl {w : World} {B : Nat} {v : Value} {l : List Gt} (h : gtE.Sl w B v l) (hm : l.length ≤ 1048576) : ∃ a cap, v = .slice a l.length cap ∧ GsIn w w.heap.size a l := by
  obtain ⟨a, cap, e, -, h3⟩ := h
  refine ⟨a, cap, e, by unfold maxLen; omega, fun h0 => ?_⟩
  obtain ⟨g, e, -, hr⟩ := h3 h0
  refine ⟨g, 0, e, hr.lt, fun j x hx => ?_⟩
  rw [Nat.zero_add]
  exact GRow.cells hr hx
/-- A part of such a slice. -/
theorem GsIn.drop {w : World} {B g off : Nat} {l : List Gt} (h : GsIn w B (some ⟨g, off, none⟩) l) (k : Nat) : GsIn w B (some ⟨g, off + k * 4, none⟩) (l.drop k) := by
  refine ⟨Nat.le_trans (by rw [List.length_drop]; omega) h.1, fun h0 => ?_⟩
  rw [List.length_drop] at h0
  obtain ⟨b, o, e, hb, hc⟩ := h.2 (by omega)
  injection e with e
  injection e with e1 e2
  subst e1 e2
  refine ⟨_, _, rfl, hb, fun j x hx => ?_⟩
  rw [List.getElem?_drop] at hx
  have := hc (k + j) x hx
  rwa [show off + (k + j) * 4 = off + k * 4 + j * 4 by rw [Nat.add_mul]; omega] at this
def zeroG : Gt := ⟨0, 0, 0, 0⟩
theorem made_gts (n : Nat) : (madeCells #[.int .i64 0, .int .i64 0, .int .i64 0, .int .i64 0] (n * 4)).toList = gtE.flat (List.replicate n zeroG) := by
  induction n with
  | zero => simp [madeCells, Enc.flat]
  | succ n ih =>
    have h : ∀ k, (#[.int .i64 0, .int .i64 0, .int .i64 0, .int .i64 0] : Array Value)[(n * 4 + k) % 4]! = (#[.int .i64 0, .int .i64 0, .int .i64 0, .int .i64 0] : Array Value)[k % 4]! := by
      intro k; rw [show (n * 4 + k) % 4 = k % 4 by omega]
    rw [List.replicate_succ', gtE.flat_app, ← ih, show (n + 1) * 4 = n * 4 + 4 by omega]
    simp only [madeCells, Array.toList_map, Array.toList_range, List.range_add, List.map_append, List.map_map]
    congr 1
    simp only [List.range_succ, List.range_zero, List.nil_append, List.map_append, List.map_cons, List.map_nil, Function.comp_def]
    rw [show (#[.int .i64 0, .int .i64 0, .int .i64 0, .int .i64 0] : Array Value).size = 4 from rfl, h 0, h 1, h 2, h 3]
    rfl
theorem halfG_at {l : List Gt} {j : Nat} (h : j < l.length) : (l.take j ++ List.replicate (l.length - j) zeroG)[j]? = some zeroG := by
  rw [List.getElem?_append_right (by simp; omega), List.getElem?_replicate, if_pos (by simp; omega)]
theorem halfG_set {l : List Gt} {j : Nat} {x : Gt} (hx : l[j]? = some x) : (l.take j ++ List.replicate (l.length - j) zeroG).set j x = l.take (j + 1) ++ List.replicate (l.length - (j + 1)) zeroG := by
  have h : j < l.length := by
    rcases Nat.lt_or_ge j l.length with h' | h'
    · exact h'
    · rw [List.getElem?_eq_none h'] at hx; cases hx
  rw [List.set_append_right _ _ (by simp; omega), List.take_add_one, hx]
  rw [show l.length - j = (l.length - (j + 1)) + 1 by omega, List.replicate_succ, show j - (l.take j).length = 0 by simp; omega]
  simp
/-- A gate written into a row, cell by cell. -/
theorem GRow.put {w : World} {g : Nat} {l : List Gt} (h : gtE.Row w g l) {j : Nat} (hj : j < l.length) (x : Gt) :
    gtE.Row ((((w.setCell ⟨g, j * 4, none⟩ (.int .i64 x.k)).setCell ⟨g, j * 4 + 1, none⟩ (.int .i64 x.a)).setCell ⟨g, j * 4 + 2, none⟩ (.int .i64 x.b)).setCell ⟨g, j * 4 + 3, none⟩ (.int .i64 x.c)) g (l.set j x) := by
  obtain ⟨y, hy⟩ : ∃ y, l[j]? = some y := ⟨l[j], List.getElem?_eq_getElem hj⟩
  have h1 := h.put1 (o := 0) (v := .int .i64 x.k) (y := ⟨x.k, y.a, y.b, y.c⟩) hy (by decide) rfl
  have h2 := h1.put1 (j := j) (o := 1) (v := .int .i64 x.a) (x := ⟨x.k, y.a, y.b, y.c⟩) (y := ⟨x.k, x.a, y.b, y.c⟩) (by rw [List.getElem?_set_self hj]) (by decide) rfl
  rw [List.set_set] at h2
  have h3 := h2.put1 (j := j) (o := 2) (v := .int .i64 x.b) (x := ⟨x.k, x.a, y.b, y.c⟩) (y := ⟨x.k, x.a, x.b, y.c⟩) (by rw [List.getElem?_set_self hj]) (by decide) rfl
  rw [List.set_set] at h3
  have h4 := h3.put1 (j := j) (o := 3) (v := .int .i64 x.c) (x := ⟨x.k, x.a, x.b, y.c⟩) (y := x) (by rw [List.getElem?_set_self hj]) (by decide) rfl
  rw [List.set_set] at h4
  exact h4
/-- The marks of a gate, of a row of n gates that begins at k. -/
def mk4 (k : Nat) : Gt := ⟨(k : Nat), ((k + 1 : Nat) : Int), ((k + 2 : Nat) : Int), ((k + 3 : Nat) : Int)⟩
def marksG (k n : Nat) : List Gt := (List.range n).map fun (j : Nat) => mk4 (k + j * 4)
theorem marksG_len (k n : Nat) : (marksG k n).length = n := by simp [marksG]
theorem markG_at (l : List Gt) {k j : Nat} (_ : j < l.length) : (marksG k j ++ l.drop j)[j]? = l[j]? := by
  rw [List.getElem?_append_right (by rw [marksG_len]; exact Nat.le_refl _), marksG_len, List.getElem?_drop]
  simp
theorem markG_set (l : List Gt) {k j : Nat} (h : j < l.length) : (marksG k j ++ l.drop j).set j (mk4 (k + j * 4)) = marksG k (j + 1) ++ l.drop (j + 1) := by
  rw [List.set_append_right _ _ (by rw [marksG_len]; exact Nat.le_refl _), marksG_len, Nat.sub_self]
  rw [show marksG k (j + 1) = marksG k j ++ [mk4 (k + j * 4)] by simp [marksG, List.range_succ], List.append_assoc]
  congr 1
  rw [show l.drop j = l[j] :: l.drop (j + 1) from (List.getElem_cons_drop ..).symm]
  rfl
theorem infoG1 : (Try.prog.info? 27).map (fun i => (i.zero, i.size, i.bytes)) = some (some (.agg #[.int .i64 0, .int .i64 0, .int .i64 0, .int .i64 0]), 4, 32) := by kernel_rfl
/-- Two gates of rows beside each other. -/
def E2G (w : World) (g g' o : Nat) (x y : Gt) (w' : World) : Prop :=
  w'.cell? ⟨g, o, none⟩ = some (.int .i64 x.k) ∧ w'.cell? ⟨g, o + 1, none⟩ = some (.int .i64 x.a) ∧ w'.cell? ⟨g, o + 2, none⟩ = some (.int .i64 x.b) ∧ w'.cell? ⟨g, o + 3, none⟩ = some (.int .i64 x.c) ∧
  w'.cell? ⟨g', o, none⟩ = some (.int .i64 y.k) ∧ w'.cell? ⟨g', o + 1, none⟩ = some (.int .i64 y.a) ∧ w'.cell? ⟨g', o + 2, none⟩ = some (.int .i64 y.b) ∧ w'.cell? ⟨g', o + 3, none⟩ = some (.int .i64 y.c) ∧ g < w'.heap.size ∧ g' < w'.heap.size ∧ Below w.heap.size w w'
theorem E2G.drew {w w' : World} {g g' o : Nat} {x y : Gt} (h : E2G w g g' o x y w') : E2G w g g' o x y w'.drew :=
  let ⟨a0, a1, a2, a3, b0, b1, b2, b3, z, z', l⟩ := h; ⟨a0, a1, a2, a3, b0, b1, b2, b3, z, z', l.drew⟩
theorem E2G.below {w w1 w2 : World} {g g' o : Nat} {x y : Gt} (h : E2G w g g' o x y w1) (hb : Below w1.heap.size w1 w2) : E2G w g g' o x y w2 :=
  let ⟨a0, a1, a2, a3, b0, b1, b2, b3, z, z', l⟩ := h
  ⟨cell_below a0 hb z, cell_below a1 hb z, cell_below a2 hb z, cell_below a3 hb z, cell_below b0 hb z', cell_below b1 hb z', cell_below b2 hb z', cell_below b3 hb z', Nat.lt_of_lt_of_le z hb.size, Nat.lt_of_lt_of_le z' hb.size, below_up l hb l.size⟩
theorem E2G.low {w w' : World} {g g' o : Nat} {x y : Gt} (h : E2G w g g' o x y w') : Below w.heap.size w w' := let ⟨_, _, _, _, _, _, _, _, _, _, l⟩ := h; l
attribute [local irreducible] World.cell?
set_option maxRecDepth 100000 in
set_option maxHeartbeats 400000 in
theorem szGs (a0 : Option Addr) (n cap : Nat) (l : Int) (w : World) (hn : n ≤ maxLen) (l0 : 0 ≤ l) (l1 : l ≤ 1048576) :
    Calls Try.prog 12 #[.slice a0 n cap, .int .i64 l] w fun e w' => e = .returned (.int .i64 (if (n : Int) ≤ l then l - n else -1)) ∧ w = w' := by
  unfold maxLen at hn
  by_cases h : (n : Int) ≤ l
  · rw [if_pos h]
    go_enter Try.func12, Try.ntmps12
    go_wp2_with fail
    go_ret
    exact ⟨rfl, rfl⟩
  · rw [if_neg h]
    go_enter Try.func12, Try.ntmps12
    go_wp2_with fail
    go_ret
    exact ⟨rfl, rfl⟩
set_option maxRecDepth 100000 in
set_option maxHeartbeats 1600000 in
theorem toGs (a0 : Option Addr) (cap B : Nat) (l : List Gt) (w : World) (hin : GsIn w B a0 l) (hB : B ≤ w.heap.size) (hn2 : l.length ≤ 1048576) :
    Calls Try.prog 14 #[.slice a0 l.length cap] w fun e w' => ∃ v, e = .returned v ∧ gtE.Sl w' w.heap.size v l ∧ Below w.heap.size w w' := by
  obtain ⟨i0, hi, hz0, hz1, hz2⟩ := info_parts infoG1
  have Hin := Lib.hid (hin.mono hB)
  clear hin
  go_enter Try.func14, Try.ntmps14
  go_wp2_with (first | (at_make; refine wpList_make_full _ rfl _ _ 24 rfl w.heap.size 27 i0 (.agg #[.int .i64 0, .int .i64 0, .int .i64 0, .int .i64 0]) 4 Try.underlying24 hi hz0 hz1 .i64 .i64 l.length l.length l.length rfl rfl rfl rfl (by rw [hz2]; omega) (by unfold maxLen; omega) (Nat.le_refl _) ?_))
  intro w1 hown hgrow
  have hb1 : Below w.heap.size w w1 := (Below.refl _ _).grown hgrow (Nat.le_refl _) (fun k hk => by cases hk)
  have hrow1 : gtE.Row w1 w.heap.size (List.replicate l.length zeroG) := by
    rcases hown.2 with ⟨h, _⟩ | ⟨g, cap, cur, hv, hb, hg, _, _, hs, ht⟩
    · cases h
    · obtain ⟨rfl, rfl⟩ : g = w.heap.size ∧ cap = l.length := by injection hv with hv _ hv2; injection hv with hv; injection hv with hv; exact ⟨hv.symm, hv2.symm⟩
      refine ⟨cur, hg, ?_⟩
      rw [List.length_replicate, ← made_gts l.length]
      first | exact ht | simpa [gtE] using ht
  have Hb1 := Lib.hid hb1
  have Hrow1 := Lib.hid hrow1
  clear hown hgrow hb1 hrow1
  go_wp2_with fail
  go_loopg [4] l.length (fun n i wr => ∃ j : Nat, n = l.length - j ∧ j ≤ l.length ∧ i = .int .i64 j ∧ Hid (gtE.Row wr w.heap.size (l.take j ++ List.replicate (l.length - j) zeroG)) ∧ Hid (Below w.heap.size w wr))
  case atStart => exact ⟨0, rfl, Nat.zero_le _, rfl, by simpa using Hrow1, Hb1⟩
  case round =>
    obtain ⟨j, rfl, hj, rfl, Hrow, Hb⟩ := hrel
    by_cases hlt : j < l.length
    · obtain ⟨b, off, rfl, hbB, hcells⟩ := (Hin.out.below Hb.out).2 (by omega)
      obtain ⟨x, hx⟩ : ∃ x, l[j]? = some x := ⟨l[j], List.getElem?_eq_getElem hlt⟩
      obtain ⟨c0, c1, c2, c3⟩ := hcells j x hx
      have Hd := Lib.hid (toG x wr)
      clear hcells
      go_wp2_with fail
      refine (Hd.out).mono ?_
      rintro e w2 ⟨rfl, hb2⟩
      have hr2 := Hrow.out.below hb2 Hrow.out.lt
      obtain ⟨e0, e1, e2, e3⟩ := GRow.cells hr2 (halfG_at hlt)
      have f1 := fun o => hr2.free o
      have hgl := hr2.lt
      have hr3 := GRow.put hr2 (j := j) (by simp; omega) x
      rw [halfG_set hx] at hr3
      have Hr3 := Lib.hid hr3
      have Hb2 := Lib.hid (Hb.out.trans (hb2.mono Hb.out.size))
      clear hr3 hr2 hb2 Hrow Hd hx
      go_wp2_with fail
      go_roundg (l.length - (j + 1))
      case measure => omega
      case rel =>
        refine ⟨j + 1, rfl, by omega, by go_num, Hr3, ?_⟩
        have := Hb2.out
        show Below _ _ _
        go_grown
    · obtain rfl : j = l.length := by omega
      go_wp2_with fail
      go_ret
      refine ⟨_, rfl, Enc.Sl.mk rfl (Nat.le_refl _) (Nat.le_refl _) ?_, Hb.out⟩
      simpa using Hrow.out
set_option maxRecDepth 100000 in
set_option maxHeartbeats 1600000 in
theorem eqGs (B C : Nat) (v u : Value) (l : List Gt) (w : World) (hv : gtE.Sl w B v l) (hu : gtE.Sl w C u l) (hm : l.length ≤ 1048576) :
    Calls Try.prog 9 #[v, u] w fun e w' => e = .returned (.bool true) ∧ Below w.heap.size w w' := by
  obtain ⟨a, cap, rfl, hcap, hr⟩ := hv
  obtain ⟨a', cap', rfl, hcap', hr'⟩ := hu
  have Hr := Lib.hid hr
  have Hr' := Lib.hid hr'
  clear hr hr'
  have hd2 : ((l.length : Int) != l.length) = false := by simp
  go_enter Try.func9, Try.ntmps9
  go_wp2_with fail
  go_loopg [5] l.length (fun n i wr => ∃ j : Nat, n = l.length - j ∧ j ≤ l.length ∧ i = .int .i64 j ∧ Hid (Below w.heap.size w wr))
  case atStart => exact ⟨0, rfl, Nat.zero_le _, rfl, Below.refl _ _⟩
  case round =>
    obtain ⟨j, rfl, hj, rfl, Hb⟩ := hrel
    by_cases hlt : j < l.length
    · obtain ⟨g, rfl, _, hrow⟩ := Hr.out (by omega)
      obtain ⟨g', rfl, _, hrow'⟩ := Hr'.out (by omega)
      obtain ⟨x, hx⟩ : ∃ x, l[j]? = some x := ⟨l[j], List.getElem?_eq_getElem hlt⟩
      have r1 := hrow.below Hb.out hrow.lt
      have r2 := hrow'.below Hb.out hrow'.lt
      obtain ⟨c0, c1, c2, c3⟩ := GRow.cells r1 hx
      obtain ⟨d0, d1, d2, d3⟩ := GRow.cells r2 hx
      have He := Lib.hid (fun W => eqG x W)
      have hgl := r1.lt
      have hgl' := r2.lt
      have hS : E2G w g g' (j * 4) x x wr := ⟨c0, c1, c2, c3, d0, d1, d2, d3, r1.lt, r2.lt, Hb.out⟩
      clear r1 r2 hrow hrow' hx
      go_upto_region 6 with fail
      go_region_held3 (fun w' => w'.cell? ⟨g, j * 4, none⟩ = some (.int .i64 x.k) ∧ w'.cell? ⟨g, j * 4 + 1, none⟩ = some (.int .i64 x.a) ∧ w'.cell? ⟨g, j * 4 + 2, none⟩ = some (.int .i64 x.b) ∧ w'.cell? ⟨g, j * 4 + 3, none⟩ = some (.int .i64 x.c) ∧ w'.cell? ⟨g', j * 4, none⟩ = some (.int .i64 x.k) ∧ w'.cell? ⟨g', j * 4 + 1, none⟩ = some (.int .i64 x.a) ∧ w'.cell? ⟨g', j * 4 + 2, none⟩ = some (.int .i64 x.b) ∧ w'.cell? ⟨g', j * 4 + 3, none⟩ = some (.int .i64 x.c) ∧ g < w'.heap.size ∧ g' < w'.heap.size ∧ Below w.heap.size w w') (first | (show E2G w g g' (j * 4) x x _; (with_reducible exact hS.drew)) | (show E2G w g g' (j * 4) x x _; (with_reducible refine E2G.below ?_ hbR); first | assumption | exact ⟨by assumption, by assumption, by assumption, by assumption, by assumption, by assumption, by assumption, by assumption, by assumption, by assumption, by assumption⟩))
        (first | (go_at_call 32; (with_reducible refine (He.out _).mono ?_); rintro e wR ⟨rfl, hbR⟩))
      have Hb2 := Lib.hid (below_up Hb.out.drew hbR Hb.out.size)
      go_wp2_with fail
      go_roundg (l.length - (j + 1))
      case measure => omega
      case rel => exact ⟨j + 1, rfl, by omega, by go_num, Hb2⟩
    · obtain rfl : j = l.length := by omega
      go_wp2_with fail
      go_ret
      exact ⟨rfl, Hb.out⟩
set_option maxRecDepth 100000 in
set_option maxHeartbeats 3200000 in
theorem markGs (B C k : Nat) (v : Value) (l : List Gt) (w : World) (hv : gtE.Sc w B C v l) (hm : l.length ≤ 1048576) (hk : k ≤ 1073741824) :
    Calls Try.prog 10 #[v, .int .i64 k] w fun e w' => e = .returned (.int .i64 ((k + l.length * 4 : Nat) : Int)) ∧ gtE.Sc w' B C v (marksG k l.length) ∧ Mid B C w w' := by
  obtain ⟨a, cap, rfl, hcap, hr⟩ := hv
  have Hr := Lib.hid hr
  clear hr
  go_enter Try.func10, Try.ntmps10
  go_wp2_with fail
  go_loopw [1, 5] (fun m i wr => ∃ j : Nat, j ≤ l.length ∧ m = .int .i64 ((k + j * 4 : Nat) : Int) ∧ i = .int .i64 j ∧ Hid (∀ g, a = some ⟨g, 0, none⟩ → B ≤ g → g < C → gtE.Row w g l → gtE.Row wr g (marksG k j ++ l.drop j)) ∧ Hid (Mid B C w wr)) (fun _ i _ => l.length - (intOf i).toNat)
  case atStart => exact ⟨0, Nat.zero_le _, by simp, rfl, fun g _ _ _ h => by simpa [marksG] using h, Mid.refl _ _ _⟩
  case round =>
    obtain ⟨j, hj, rfl, rfl, Hrow, Hm⟩ := hrel
    by_cases hlt : j < l.length
    · obtain ⟨g, rfl, hB, hC, hrow0⟩ := Hr.out (by omega)
      have hrow := Hrow.out g rfl hB hC hrow0
      obtain ⟨x, hx⟩ : ∃ x, l[j]? = some x := ⟨l[j], List.getElem?_eq_getElem hlt⟩
      obtain ⟨c0, c1, c2, c3⟩ := GRow.cells hrow ((markG_at l hlt).trans hx)
      have f1 := fun o => hrow.free o
      have hgl := hrow.lt
      have hr2 := GRow.put hrow (j := j) (by simp [marksG_len]; omega) (mk4 (k + j * 4))
      rw [markG_set l hlt] at hr2
      have Hr2 := Lib.hid hr2
      have Hm2 := Lib.hid ((((Hm.out.set hB hC (o := j * 4) (.int .i64 (mk4 (k + j * 4)).k)).set hB hC (o := j * 4 + 1) (.int .i64 (mk4 (k + j * 4)).a)).set hB hC (o := j * 4 + 2) (.int .i64 (mk4 (k + j * 4)).b)).set hB hC (o := j * 4 + 3) (.int .i64 (mk4 (k + j * 4)).c))
      clear hr2 hrow Hrow Hm hrow0 hx
      have m0 : (mk4 (k + j * 4)).k = (k : Int) + j * 4 := by simp [mk4]
      have m1 : (mk4 (k + j * 4)).a = (k : Int) + j * 4 + 1 := by simp [mk4]
      have m2 : (mk4 (k + j * 4)).b = (k : Int) + j * 4 + 1 + 1 := by simp [mk4]; omega
      have m3 : (mk4 (k + j * 4)).c = (k : Int) + j * 4 + 1 + 1 + 1 := by simp [mk4]; omega
      rw [m0, m1, m2, m3] at Hr2 Hm2
      clear m0 m1 m2 m3
      go_wp2_with fail
      go_roundw
      case rel => exact ⟨j + 1, by omega, by go_num, by go_num, fun g' hg _ _ _ => by cases hg; exact Hr2.out, Hm2⟩
      case measure => simp [intOf]; omega
    · obtain rfl : j = l.length := by omega
      go_wp2_with fail
      go_ret
      refine ⟨rfl, ⟨_, _, by rw [marksG_len], by rw [marksG_len]; exact hcap, fun hl => ?_⟩, Hm.out⟩
      rw [marksG_len] at hl
      obtain ⟨g, e, hB, hC, hrow0⟩ := Hr.out hl
      exact ⟨g, e, hB, hC, by simpa using Hrow.out g e hB hC hrow0⟩
theorem markG1 (B C : Nat) (v : Value) (l : List Gt) (w : World) (hv : gtE.Sc w B C v l) (hm : l.length ≤ 1048576) :
    Calls Try.prog 10 #[v, .int .i64 1] w fun e w' => e = .returned (.int .i64 (1 + (l.length : Int) * 4)) ∧ gtE.Sc w' B C v (marksG 1 l.length) ∧ Mid B C w w' := by
  refine (markGs B C 1 v l w hv hm (by omega)).mono ?_
  rintro e w1 ⟨rfl, h⟩
  exact ⟨by simp, h⟩
theorem marksG_at {k n j : Nat} (h : j < n) : (marksG k n)[j]? = some (mk4 (k + j * 4)) := by
  rw [marksG, List.getElem?_map, List.getElem?_range h]; rfl
end Go.Proofs.Ytlmiebeffdcfhaa
