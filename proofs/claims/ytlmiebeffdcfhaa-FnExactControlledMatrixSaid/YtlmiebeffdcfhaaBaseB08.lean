/- BaseB08: several of our texts in one: PeD GtA IsL IsO MtL. -/
import Derived.Test.YtlmiebeffdcfhaaBaseB22
import Derived.Test.YtlmiebeffdcfhaaBaseB12
import Derived.Test.YtlmiebeffdcfhaaBaseB02
import Derived.Test.YtlmiebeffdcfhaaBaseB18
import Derived.Deep.Slices
import Derived.OpenShut
import Derived.Test.YtlmiebeffdcfhaaMtR
namespace Go.Proofs.Ytlmiebeffdcfhaa
open Go.RowKit
theorem infoInt : (Try.prog.info? 3).map (fun i => (i.zero, i.size, i.bytes)) = some (some (.int .i64 0), 1, 8) := by kernel_rfl
/-- The first n integers. -/
def upL (n : Nat) : List Int := (List.range n).map fun (i : Nat) => (i : Int)
theorem upL_len (n : Nat) : (upL n).length = n := by simp [upL]
theorem upL_snoc (n : Nat) : upL (n + 1) = upL n ++ [(n : Int)] := by unfold upL; rw [List.range_succ, List.map_append]; rfl
theorem upL_mem {n : Nat} {x : Int} (h : x ∈ upL n) : 0 ≤ x ∧ x < n := by
  unfold upL at h
  obtain ⟨i, hi, rfl⟩ := List.mem_map.1 h
  have := List.mem_range.1 hi
  omega
theorem one_int (i : Int) : ∀ u ∈ [Value.int .i64 i], u.oneCell' = true := intE.one i
attribute [local irreducible] World.cell?
end Go.Proofs.Ytlmiebeffdcfhaa
namespace Go.Proofs.Ytlmiebeffdcfhaa
open Go.RowKit
/-- A gate: its kind and three qubits. -/
structure Gt where
  k : Int
  a : Int
  b : Int
  c : Int
/-- The number of qubits of a kind. -/
def ar (k : Int) : Nat := if 1 ≤ k ∧ k ≤ 8 then 1 else if 9 ≤ k ∧ k ≤ 11 then 2 else if k = 12 then 3 else 0
theorem ar_le (k : Int) : ar k ≤ 3 := by unfold ar; (repeat' split) <;> omega
/-- The qubits of a gate. -/
def gqs (g : Gt) : List Int := [g.a, g.b, g.c].take (ar g.k)
/-- Gates, four cells each. -/
def gtE : Enc Gt := ⟨fun g => [.int .i64 g.k, .int .i64 g.a, .int .i64 g.b, .int .i64 g.c], 4, 27, fun _ => rfl, fun x u h => by simp at h; rcases h with rfl | rfl | rfl | rfl <;> rfl⟩
/-- Whether a gate's qubit j is as it must be: 0 where the gate has none, else from 0 to hi and none of the earlier ones. -/
def gtOk (g : Gt) (hi : Int) (j : Nat) : Bool :=
  if ar g.k ≤ j then decide ([g.a, g.b, g.c].getD j 0 = 0) else decide (0 ≤ [g.a, g.b, g.c].getD j 0 ∧ [g.a, g.b, g.c].getD j 0 ≤ hi) && !decide ([g.a, g.b, g.c].getD j 0 ∈ (gqs g).take j)
/-- IsValidGate. -/
def gtB (g : Gt) (n : Int) : Bool := (List.range 3).all (gtOk g (IntKind.i64.wrap (n - 1))) && (decide (0 < ar g.k) && decide (1 ≤ n ∧ n ≤ 4))
attribute [local irreducible] World.cell?
set_option maxRecDepth 100000 in
set_option maxHeartbeats 800000 in
theorem sar (k : Int) (w : World) :
    Calls Try.prog 61 #[.int .i64 k] w fun e w' => e = .returned (.int .i64 (ar k)) ∧ w = w' := by
  by_cases h1 : 1 ≤ k ∧ k ≤ 8
  · rw [show ar k = 1 from if_pos h1]
    have H1 := Lib.hid (fun w => lin_any k 1 8 true w (decide_eq_true h1))
    clear h1
    go_enter Try.func61, Try.ntmps61
    go_wp2_with fail
    refine (H1.out _).mono ?_
    rintro e w1 ⟨rfl, rfl⟩
    go_wp2_with fail
    go_ret
    exact ⟨rfl, rfl⟩
  · by_cases h2 : 9 ≤ k ∧ k ≤ 11
    · rw [show ar k = 2 by unfold ar; rw [if_neg h1, if_pos h2]]
      have H1 := Lib.hid (fun w => lin_any k 1 8 false w (decide_eq_false h1))
      have H2 := Lib.hid (fun w => lin_any k 9 11 true w (decide_eq_true h2))
      clear h1 h2
      go_enter Try.func61, Try.ntmps61
      go_wp2_with fail
      refine (H1.out _).mono ?_
      rintro e w1 ⟨rfl, rfl⟩
      go_wp2_with fail
      refine (H2.out _).mono ?_
      rintro e w2 ⟨rfl, rfl⟩
      go_wp2_with fail
      go_ret
      exact ⟨rfl, rfl⟩
    · have H1 := Lib.hid (fun w => lin_any k 1 8 false w (decide_eq_false h1))
      have H2 := Lib.hid (fun w => lin_any k 9 11 false w (decide_eq_false h2))
      by_cases h3 : k = 12
      · subst h3
        rw [show ar 12 = 3 from rfl]
        clear h1 h2
        go_enter Try.func61, Try.ntmps61
        go_wp2_with fail
        refine (H1.out _).mono ?_
        rintro e w1 ⟨rfl, rfl⟩
        go_wp2_with fail
        refine (H2.out _).mono ?_
        rintro e w2 ⟨rfl, rfl⟩
        go_wp2_with fail
        go_ret
        exact ⟨rfl, rfl⟩
      · rw [show ar k = 0 by unfold ar; rw [if_neg h1, if_neg h2, if_neg h3]]
        have h4 : (k == 12) = false := by simpa using h3
        clear h1 h2 h3
        go_enter Try.func61, Try.ntmps61
        go_wp2_with fail
        refine (H1.out _).mono ?_
        rintro e w1 ⟨rfl, rfl⟩
        go_wp2_with fail
        refine (H2.out _).mono ?_
        rintro e w2 ⟨rfl, rfl⟩
        go_wp2_with fail
        go_ret
        exact ⟨rfl, rfl⟩
theorem gqs_len (g : Gt) : (gqs g).length = ar g.k := by unfold gqs; rw [List.length_take]; have := ar_le g.k; simp; omega
set_option maxRecDepth 100000 in
set_option maxHeartbeats 1600000 in
theorem sgqs (g : Gt) (w : World) :
    Calls Try.prog 47 #[(.agg #[.int .i64 g.k, .int .i64 g.a, .int .i64 g.b, .int .i64 g.c])] w fun e w' => ∃ v, e = .returned v ∧ intE.Sl w' w.heap.size v (gqs g) ∧ Below w.heap.size w w' := by
  obtain ⟨i0, hi, hz0, hz1, hz2⟩ := info_parts infoInt
  have Ha := Lib.hid (fun w => sar g.k w)
  have hL := gqs_len g
  have h3 := ar_le g.k
  have hrow : intE.Row (((w.alloc (.cells #[.int .i64 g.k, .int .i64 g.a, .int .i64 g.b, .int .i64 g.c] 27)).alloc (.cells #[.int .i64 g.a, .int .i64 g.b, .int .i64 g.c] 3)).alloc (.cells #[] 3)) (w.heap.size + 1) (gqs g) := by
    have h1 : ((w.alloc (.cells #[.int .i64 g.k, .int .i64 g.a, .int .i64 g.b, .int .i64 g.c] 27)).alloc (.cells #[.int .i64 g.a, .int .i64 g.b, .int .i64 g.c] 3)).heap[w.heap.size + 1]? = some (.cells #[.int .i64 g.a, .int .i64 g.b, .int .i64 g.c] 3 (0, 0)) := by
      simpa using heap_alloc_new (w.alloc (.cells #[.int .i64 g.k, .int .i64 g.a, .int .i64 g.b, .int .i64 g.c] 27)) (.cells #[.int .i64 g.a, .int .i64 g.b, .int .i64 g.c] 3)
    exact Enc.Row.take (E := intE) (l := [g.a, g.b, g.c]) ⟨#[.int .i64 g.a, .int .i64 g.b, .int .i64 g.c], alloc_blk _ h1, rfl⟩ (ar g.k)
  have Hnew := Lib.hid (intE_src hrow)
  have Hp := Lib.hid (intE.flat_plain (gqs g))
  have Hl := Lib.hid (show (intE.flat (gqs g)).length = ar g.k * 1 by rw [intE.flat_len, hL]; rfl)
  have Hown := Lib.hid (Enc.own_nil (E := intE) (w := (w.alloc (.cells #[.int .i64 g.k, .int .i64 g.a, .int .i64 g.b, .int .i64 g.c] 27)).alloc (.cells #[.int .i64 g.a, .int .i64 g.b, .int .i64 g.c] 3)) (n := w.heap.size + 2) (by simp))
  have HB := Lib.hid (show Below w.heap.size w (((w.alloc (.cells #[.int .i64 g.k, .int .i64 g.a, .int .i64 g.b, .int .i64 g.c] 27)).alloc (.cells #[.int .i64 g.a, .int .i64 g.b, .int .i64 g.c] 3)).alloc (.cells #[] 3)) by go_grown)
  clear hrow
  generalize ar g.k = t at *
  have HL := Lib.hid hL
  clear hL
  go_enter Try.func47, Try.ntmps47
  go_wp2_with fail
  refine (Ha.out _).mono ?_
  rintro e w1 ⟨rfl, rfl⟩
  go_wp2_with (first
    | (at_builtin; (refine wpList_append_own _ rfl _ _ 50 rfl (w.heap.size + 2) 3 i0 (.int .i64 0) 1 8 Try.underlying50 hi hz0 hz1 hz2 rfl (by decide) _ _ _ rfl Hown.out ⟨w.heap.size + 1, 0, none⟩ t 3 (intE.flat (gqs g)) rfl Hl.out Hnew.out Hp.out ?d3 ?d4 ?d5 ?_)))
  case d3 => unfold maxLen; omega
  case d4 => omega
  case d5 => simp
  intro v' w4 hown' hgrow _
  have hown2 : w4.ownsRow (w.heap.size + 2) 3 1 v' t (intE.flat (gqs g)) := by
    have h : w4.ownsRow (w.heap.size + 2) 3 1 v' t ([] ++ intE.flat (gqs g)) := hown'
    rwa [List.nil_append] at h
  have HB4 := Lib.hid (HB.out.grown hgrow (by simp; omega) (fun q hq => by have := Hown.out.lt q hq; omega))
  have Hs := Lib.hid ((Enc.Sl.of_own (E := intE) (l := gqs g) (by rw [HL.out]; exact hown2)).mono (show w.heap.size ≤ w.heap.size + 2 by omega))
  clear hown' hown2 hgrow
  go_wp2_with fail
  go_ret
  exact ⟨_, rfl, Hs.out, HB4.out⟩
end Go.Proofs.Ytlmiebeffdcfhaa
namespace Go.Proofs.Ytlmiebeffdcfhaa
open Go.RowKit
/-- A slice of integers that came in. -/
def IsIn (w : World) (B : Nat) (a0 : Option Addr) (l : List Int) : Prop :=
  l.length ≤ maxLen ∧ (∀ x ∈ l, -9223372036854775808 ≤ x ∧ x ≤ 9223372036854775807) ∧
  (0 < l.length → ∃ b off, a0 = some ⟨b, off, none⟩ ∧ b < B ∧ ∀ j x, l[j]? = some x → w.cell? ⟨b, off + j, none⟩ = some (.int .i64 x))
theorem IsIn.below {w w' : World} {B : Nat} {a0 : Option Addr} {l : List Int} (h : IsIn w B a0 l) (hb : Below B w w') : IsIn w' B a0 l :=
  ⟨h.1, h.2.1, fun h0 => by
    obtain ⟨b, off, e, hlt, hc⟩ := h.2.2 h0
    exact ⟨b, off, e, hlt, fun j x hx => (hb.cell (by exact hlt)).trans (hc j x hx)⟩⟩
theorem IsIn.mono {w : World} {B C : Nat} {a0 : Option Addr} {l : List Int} (h : IsIn w B a0 l) (hC : B ≤ C) : IsIn w C a0 l :=
  ⟨h.1, h.2.1, fun h0 => by obtain ⟨b, off, e, hlt, hc⟩ := h.2.2 h0; exact ⟨b, off, e, by omega, hc⟩⟩
theorem made_ints (n : Nat) : (madeCells #[.int .i64 0] (n * 1)).toList = intE.flat (List.replicate n 0) := by
  induction n with
  | zero => simp [madeCells, Enc.flat]
  | succ n ih =>
    rw [List.replicate_succ', intE.flat_app, ← ih, show (n + 1) * 1 = n * 1 + 1 by omega]
    simp only [madeCells, Array.toList_map, Array.toList_range, List.range_succ, List.map_append, List.map_cons, List.map_nil]
    congr 1
    simp [Nat.mod_one, Enc.flat, intE]
theorem halfI_at {l : List Int} {j : Nat} (h : j < l.length) : (l.take j ++ List.replicate (l.length - j) (0 : Int))[j]? = some 0 := by
  rw [List.getElem?_append_right (by simp; omega), List.getElem?_replicate, if_pos (by simp; omega)]
theorem halfI_set {l : List Int} {j : Nat} {x : Int} (hx : l[j]? = some x) : (l.take j ++ List.replicate (l.length - j) (0 : Int)).set j x = l.take (j + 1) ++ List.replicate (l.length - (j + 1)) (0 : Int) := by
  have h : j < l.length := by
    rcases Nat.lt_or_ge j l.length with h' | h'
    · exact h'
    · rw [List.getElem?_eq_none h'] at hx; cases hx
  rw [List.set_append_right _ _ (by simp; omega), List.take_add_one, hx]
  rw [show l.length - j = (l.length - (j + 1)) + 1 by omega, List.replicate_succ, show j - (l.take j).length = 0 by simp; omega]
  simp
/-- The marks of a row of n that begins at k. -/
def marksI (k n : Nat) : List Int := (List.range n).map fun (j : Nat) => ((k + j : Nat) : Int)
theorem marksI_len (k n : Nat) : (marksI k n).length = n := by simp [marksI]
theorem marksI_at {k n j : Nat} (h : j < n) : (marksI k n)[j]? = some ((k + j : Nat) : Int) := by
  rw [marksI, List.getElem?_map, List.getElem?_range h]; rfl
theorem markI_at (l : List Int) {k j : Nat} (_ : j < l.length) : (marksI k j ++ l.drop j)[j]? = l[j]? := by
  rw [List.getElem?_append_right (by rw [marksI_len]; exact Nat.le_refl _), marksI_len, List.getElem?_drop]
  simp
theorem markI_set (l : List Int) {k j : Nat} (h : j < l.length) : (marksI k j ++ l.drop j).set j ((k + j : Nat) : Int) = marksI k (j + 1) ++ l.drop (j + 1) := by
  rw [List.set_append_right _ _ (by rw [marksI_len]; exact Nat.le_refl _), marksI_len, Nat.sub_self]
  rw [show marksI k (j + 1) = marksI k j ++ [((k + j : Nat) : Int)] by simp [marksI, List.range_succ], List.append_assoc]
  congr 1
  rw [show l.drop j = l[j] :: l.drop (j + 1) from (List.getElem_cons_drop ..).symm]
  rfl
attribute [local irreducible] World.cell?
theorem eqI_take {a b : List Int} {j : Nat} {x y : Int} (hx : a[j]? = some x) (hy : b[j]? = some y) (h : a.take j = b.take j) (hxy : x = y) : a.take (j + 1) = b.take (j + 1) := by
  rw [List.take_add_one, List.take_add_one, h, hx, hy, hxy]
end Go.Proofs.Ytlmiebeffdcfhaa
namespace Go.Proofs.Ytlmiebeffdcfhaa
open Go.ChangeShapes Go.WideShapes Go.ChangeAt Go.RowKit Go.Lib Go.Joins
set_option maxRecDepth 100000 in
set_option maxHeartbeats 400000 in
theorem open_is {H : Type} {enc : TypeId × Value → H} {w : World} {spare : Nat → Bool} {held : Bool} {r : Reach} {b0 : Nat} {v : Value} {d : DataW H} {p : List MemPlace}
    (hv : Value.okWide Try.prog w r b0 50 v) (h : DataW.Trod enc Try.prog w 0 spare held 50 v d p) :
    ∃ a0 cap l, v = .slice a0 (List.length l) cap ∧ IsIn w w.heap.size a0 l := by
  obtain ⟨a0, len, cap, rfl⟩ := okWide_slice Try.underlying50 hv
  obtain ⟨fuel, hf⟩ := h
  rcases open_ints Try.underlying50 Try.underlying3 (by kernel_rfl) hf with ⟨hcs, _⟩ | ⟨x, l, c, zs, hcs, _, hl, hm, hz, _, hcell, hwz⟩
  · simp [Value.cells] at hcs
    obtain ⟨rfl, rfl, rfl⟩ := hcs
    exact ⟨none, 0, [], rfl, Nat.zero_le _, fun y hy => absurd hy List.not_mem_nil, fun h => absurd h (by simp)⟩
  · simp [Value.cells] at hcs
    obtain ⟨rfl, rfl, rfl⟩ := hcs
    have hlz : len ≤ zs.length := by rw [hz]; split <;> omega
    have hlen : (zs.take len).length = len := by rw [List.length_take]; omega
    refine ⟨some x, cap, zs.take len, by rw [hlen], by rw [hlen]; omega, fun y hy => ?_, fun h0 => ?_⟩
    · have h1 := hwz y (List.mem_of_mem_take hy)
      exact ⟨(bounds_i64 h1).1, (bounds_i64 h1).2⟩
    · rw [hlen] at h0
      obtain ⟨b, off, rfl, hat⟩ := ints_at hcell (by omega)
      have hb := World.block_lt_of_cell? _ _ (hat 0 (by omega))
      refine ⟨b, off, rfl, hb, fun j y hy => ?_⟩
      rw [List.getElem?_take] at hy
      split at hy
      · rw [hat j (by omega), List.getD_eq_getElem?_getD, hy]; rfl
      · cases hy
open Go.RowKit
end Go.Proofs.Ytlmiebeffdcfhaa
namespace Go.Proofs.Ytlmiebeffdcfhaa
open Go.RowKit
/-- A matrix of the laws' fractions that came in. -/
def MtIn (w : World) (B : Nat) (a0 : Option Addr) (M : List (List Dw)) : Prop :=
  M.length ≤ maxLen ∧ (0 < M.length → ∃ b off, a0 = some ⟨b, off, none⟩ ∧ b < B ∧ ∀ j r, M[j]? = some r → ∃ a cap, w.cell? ⟨b, off + j, none⟩ = some (.slice a r.length cap) ∧ DsIn w B a r)
theorem MtIn.below {w w' : World} {B : Nat} {a0 : Option Addr} {M : List (List Dw)} (h : MtIn w B a0 M) (hb : Below B w w') : MtIn w' B a0 M :=
  ⟨h.1, fun h0 => by
    obtain ⟨b, off, e, hlt, hc⟩ := h.2 h0
    refine ⟨b, off, e, hlt, fun j r hr => ?_⟩
    obtain ⟨a, cap, c0, hd⟩ := hc j r hr
    exact ⟨a, cap, (hb.cell (by exact hlt)).trans c0, hd.below hb⟩⟩
theorem MtIn.mono {w : World} {B C : Nat} {a0 : Option Addr} {M : List (List Dw)} (h : MtIn w B a0 M) (hC : B ≤ C) : MtIn w C a0 M :=
  ⟨h.1, fun h0 => by
    obtain ⟨b, off, e, hlt, hc⟩ := h.2 h0
    refine ⟨b, off, e, by omega, fun j r hr => ?_⟩
    obtain ⟨a, cap, c0, hd⟩ := hc j r hr
    exact ⟨a, cap, c0, hd.mono hC⟩⟩
/-- The exponents of a matrix are machine integers. -/
def EbM (M : List (List Dw)) : Prop := ∀ r ∈ M, Eb r
theorem MtIn.eb {w : World} {B : Nat} {a0 : Option Addr} {M : List (List Dw)} (h : MtIn w B a0 M) : EbM M := by
  intro r hr
  obtain ⟨j, hj⟩ := List.getElem?_of_mem hr
  have h0 : 0 < M.length := by
    rcases Nat.eq_zero_or_pos M.length with k | k
    · rw [List.eq_nil_of_length_eq_zero k] at hj; simp at hj
    · exact k
  obtain ⟨b, off, e, hlt, hc⟩ := h.2 h0
  obtain ⟨a, cap, _, hd⟩ := hc j r hj
  exact hd.eb
/-- The amplitudes of a matrix. -/
def amps (M : List (List Dw)) : Nat := (M.map List.length).sum
theorem amps_step {M : List (List Dw)} {j : Nat} {r : List Dw} (hr : M[j]? = some r) : amps (M.take (j + 1)) = amps (M.take j) + r.length := by
  unfold amps
  rw [List.take_add_one, hr]
  simp
theorem amps_le {M : List (List Dw)} (j : Nat) : amps (M.take j) ≤ amps M := by
  unfold amps
  conv => rhs; rw [← List.take_append_drop j M, List.map_append, List.sum_append]
  omega
theorem amps_row {M : List (List Dw)} {j : Nat} {r : List Dw} (hr : M[j]? = some r) : r.length ≤ amps M := by
  have h1 := amps_step hr
  have h2 := amps_le (M := M) (j + 1)
  omega
set_option maxRecDepth 100000 in
set_option maxHeartbeats 1600000 in
theorem szMt (a0 : Option Addr) (cap B : Nat) (M : List (List Dw)) (l : Int) (w : World) (hin : MtIn w B a0 M) (l0 : 0 ≤ l) (l1 : l ≤ 1048576) :
    Calls Try.prog 16 #[.slice a0 M.length cap, .int .i64 l] w fun e w' => e = .returned (.int .i64 (if (M.length : Int) + amps M ≤ l then l - M.length - amps M else -1)) ∧ w = w' := by
  have hn := hin.1
  unfold maxLen at hn
  have Hin := Lib.hid hin
  clear hin
  obtain ⟨R, hR⟩ : ∃ R, R = (if (M.length : Int) + amps M ≤ l then l - M.length - amps M else -1) := ⟨_, rfl⟩
  rw [← hR]
  have HR := Lib.hid hR
  clear hR
  by_cases h : (M.length : Int) ≤ l
  · go_enter Try.func16, Try.ntmps16
    go_wp2_with fail
    go_loopg [1, 5] M.length (fun k left i wr => ∃ j : Nat, k = M.length - j ∧ j ≤ M.length ∧ i = .int .i64 j ∧ left = .int .i64 (l - M.length - amps (M.take j)) ∧ 0 ≤ l - M.length - amps (M.take j) ∧ w = wr)
    case atStart => exact ⟨0, rfl, Nat.zero_le _, rfl, by simp [amps], by simp [amps]; omega, rfl⟩
    case round =>
      obtain ⟨j, rfl, hj, rfl, rfl, hpos, rfl⟩ := hrel
      by_cases hlt : j < M.length
      · obtain ⟨b, off, rfl, hbB, hcells⟩ := Hin.out.2 (by omega)
        obtain ⟨r, hr⟩ : ∃ r, M[j]? = some r := ⟨M[j], List.getElem?_eq_getElem hlt⟩
        obtain ⟨a, cap2, c0, hd⟩ := hcells j r hr
        have hstep := amps_step hr
        have hle := amps_le (M := M) (j + 1)
        have hrl := hd.1
        have Hs := Lib.hid (fun w => szDs a r.length cap2 (l - M.length - amps (M.take j)) w hrl hpos (by omega))
        clear hcells hd
        by_cases hfit : (r.length : Int) ≤ l - M.length - amps (M.take j)
        · rw [if_pos hfit] at Hs
          go_wp2_with fail
          refine (Hs.out _).mono ?_
          rintro e w2 ⟨rfl, rfl⟩
          go_wp2_with fail
          go_roundg (M.length - (j + 1))
          case measure => omega
          case rel => exact ⟨j + 1, rfl, by omega, by go_num, by rw [hstep]; congr 1; omega, by rw [hstep]; omega, rfl⟩
        · rw [if_neg hfit] at Hs
          obtain rfl : R = -1 := HR.out.trans (if_neg (by omega))
          go_wp2_with fail
          refine (Hs.out _).mono ?_
          rintro e w2 ⟨rfl, rfl⟩
          go_wp2_with fail
          go_ret
          exact ⟨rfl, rfl⟩
      · obtain rfl : j = M.length := by omega
        rw [List.take_length] at hpos ⊢
        obtain rfl : R = l - M.length - amps M := HR.out.trans (if_pos (by omega))
        go_wp2_with fail
        go_ret
        exact ⟨rfl, rfl⟩
  · obtain rfl : R = -1 := HR.out.trans (if_neg (by omega))
    go_enter Try.func16, Try.ntmps16
    go_wp2_with fail
    go_ret
    exact ⟨rfl, rfl⟩
theorem infoDs : (Try.prog.info? 62).map (fun i => (i.zero, i.size, i.bytes)) = some (some (.slice none 0 0), 1, 24) := by kernel_rfl
theorem cellsDs : Try.prog.cellsOf 62 = 1 := by kernel_rfl
theorem made_slices (n : Nat) : (madeCells #[.slice none 0 0] (n * 1)).toList = List.replicate n (.slice none 0 0) := by
  induction n with
  | zero => simp [madeCells]
  | succ n ih =>
    rw [List.replicate_succ', ← ih, show (n + 1) * 1 = n * 1 + 1 by omega]
    simp only [madeCells, Array.toList_map, Array.toList_range, List.range_succ, List.map_append, List.map_cons, List.map_nil]
    congr 1
    simp [Nat.mod_one]
theorem rows_nil {w : World} {B C n : Nat} : RwS w B C (List.replicate n (.slice none 0 0)) (List.replicate n []) := by
  refine ⟨by simp, fun _ => 0, fun j v r hv hr => ?_, fun i j r s hr _ ls _ _ => ?_⟩
  · rw [List.getElem?_replicate] at hv hr
    split at hv
    · split at hr
      · injection hv with hv; injection hr with hr; subst hv hr
        exact ⟨none, 0, rfl, Nat.le_refl _, fun h => absurd h (by simp)⟩
      · omega
    · cases hv
  · rw [List.getElem?_replicate] at hr
    split at hr
    · injection hr with hr; subst hr; simp at ls
    · cases hr
theorem halfM_at {M : List (List Dw)} {j : Nat} (h : j < M.length) : (M.take j ++ List.replicate (M.length - j) ([] : List Dw))[j]? = some [] := by
  rw [List.getElem?_append_right (by simp; omega), List.getElem?_replicate, if_pos (by simp; omega)]
theorem halfM_set {M : List (List Dw)} {j : Nat} {r : List Dw} (hr : M[j]? = some r) : (M.take j ++ List.replicate (M.length - j) []).set j r = M.take (j + 1) ++ List.replicate (M.length - (j + 1)) [] := by
  have h : j < M.length := by
    rcases Nat.lt_or_ge j M.length with h' | h'
    · exact h'
    · rw [List.getElem?_eq_none h'] at hr; cases hr
  rw [List.set_append_right _ _ (by simp; omega), List.take_add_one, hr]
  rw [show M.length - j = (M.length - (j + 1)) + 1 by omega, List.replicate_succ, show j - (M.take j).length = 0 by simp; omega]
  simp
attribute [local irreducible] World.cell?
set_option maxRecDepth 100000 in
set_option maxHeartbeats 1600000 in
theorem toMt (a0 : Option Addr) (cap : Nat) (M : List (List Dw)) (w : World) (hin : MtIn w w.heap.size a0 M) (hn1 : M.length ≤ 1048576) (hn2 : amps M ≤ 1048576) :
    Calls Try.prog 18 #[.slice a0 M.length cap] w fun e w' => ∃ v, e = .returned v ∧ DSM w' w.heap.size w'.heap.size v M ∧ Below w.heap.size w w' := by
  obtain ⟨i0, hi, hz0, hz1, hz2⟩ := info_parts infoDs
  have Hin := Lib.hid hin
  clear hin
  go_enter Try.func18, Try.ntmps18
  go_wp2_with (first | (at_make; refine wpList_make_full _ rfl _ _ 39 rfl w.heap.size 62 i0 (.slice none 0 0) 1 Try.underlying39 hi hz0 hz1 .i64 .i64 M.length M.length M.length rfl rfl rfl rfl (by rw [hz2]; omega) (by unfold maxLen; omega) (Nat.le_refl _) ?_))
  intro w1 hown hgrow
  have hb1 : Below w.heap.size w w1 := (Below.refl _ _).grown hgrow (Nat.le_refl _) (fun k hk => by cases hk)
  have hrow1 : MRow w1 w.heap.size w1.heap.size w.heap.size (List.replicate M.length []) := by
    rcases hown.2 with ⟨h, _⟩ | ⟨g, cap, cur, hv, hb, hg, _, _, hs, ht⟩
    · cases h
    · obtain ⟨rfl, rfl⟩ : g = w.heap.size ∧ cap = M.length := by injection hv with hv _ hv2; injection hv with hv; injection hv with hv; exact ⟨hv.symm, hv2.symm⟩
      refine ⟨cur, _, hg, ?_, rows_nil (n := M.length)⟩
      rw [List.length_replicate, ← made_slices M.length, Nat.mul_one]
      first | exact ht | simpa using ht
  have Hb1 := Lib.hid hb1
  have Hrow1 := Lib.hid hrow1
  clear hown hgrow hb1 hrow1
  go_wp2_with fail
  go_loopw [4] (fun i wr => ∃ j : Nat, j ≤ M.length ∧ i = .int .i64 j ∧ Hid (MRow wr w.heap.size wr.heap.size w.heap.size (M.take j ++ List.replicate (M.length - j) [])) ∧ Hid (Below w.heap.size w wr)) (fun i _ => M.length - (intOf i).toNat)
  case atStart => exact ⟨0, Nat.zero_le _, rfl, by simpa using Hrow1, Hb1⟩
  case round =>
    obtain ⟨j, hj, rfl, Hrow, Hb⟩ := hrel
    by_cases hlt : j < M.length
    · obtain ⟨b, off, rfl, hbB, hcells⟩ := (Hin.out.below Hb.out).2 (by omega)
      obtain ⟨r, hr⟩ : ∃ r, M[j]? = some r := ⟨M[j], List.getElem?_eq_getElem hlt⟩
      obtain ⟨a, cap2, c0, hd⟩ := hcells j r hr
      have Hd := Lib.hid (fun W (h : DsIn W w.heap.size a r) (hB : w.heap.size ≤ W.heap.size) => toDsB a cap2 w.heap.size r W h hB (by have := amps_row hr; omega))
      have Hdin := Lib.hid hd
      clear hcells hd
      go_wp2_with fail
      refine (Hd.out _ Hdin.out Hb.out.size).mono ?_
      rintro e w2 ⟨v, rfl, hds, hb2⟩
      have hr2 := Hrow.out.block (hb2.block _ Hrow.out.lt) fun k _ _ hk => hb2.block k hk
      have f1 := fun o => hr2.free o
      obtain ⟨a9, c9, e0, -⟩ := hr2.cell (halfM_at hlt)
      have hgl := Nat.lt_of_lt_of_le Hrow.out.lt hb2.size
      have hr3 := Hrow.out.put (j := j) (by simp; omega) hds.upto Hb.out.size hb2.size fun k hk => hb2.block k hk
      rw [halfM_set hr] at hr3
      have Hr3 := Lib.hid hr3
      have Hb2 := Lib.hid (Hb.out.trans (hb2.mono Hb.out.size))
      obtain ⟨a2, cap3, rfl, _⟩ := hds
      clear hr3 hr2 hb2 Hrow Hd Hdin
      go_wp2_with fail
      go_roundw
      case rel =>
        refine ⟨j + 1, by omega, by go_num, by simpa using Hr3, ?_⟩
        have := Hb2.out
        show Below _ _ _
        go_grown
      case measure => simp [intOf]; omega
    · obtain rfl : j = M.length := by omega
      go_wp2_with fail
      go_ret
      refine ⟨_, rfl, ⟨_, _, rfl, Nat.le_refl _, fun _ => ⟨_, rfl, Nat.le_refl _, Hrow.out.lt, ?_⟩⟩, Hb.out⟩
      simpa using Hrow.out
set_option maxRecDepth 100000 in
set_option maxHeartbeats 1600000 in
theorem eqMt (B C D E : Nat) (v u : Value) (M : List (List Dw)) (w : World) (hv : DSM w B C v M) (hu : DSM w D E u M) (hm : M.length ≤ 1048576) (hm2 : amps M ≤ 1048576) :
    Calls Try.prog 20 #[v, u] w fun e w' => e = .returned (.bool true) ∧ Below w.heap.size w w' := by
  obtain ⟨a, cap, rfl, hcap, hr⟩ := hv
  obtain ⟨a', cap', rfl, hcap', hr'⟩ := hu
  have Hr := Lib.hid hr
  have Hr' := Lib.hid hr'
  clear hr hr'
  go_enter Try.func20, Try.ntmps20
  go_wp2_with fail
  go_loopw [5] (fun i wr => ∃ j : Nat, j ≤ M.length ∧ i = .int .i64 j ∧ Hid (Below w.heap.size w wr)) (fun i _ => M.length - (intOf i).toNat)
  case atStart => exact ⟨0, Nat.zero_le _, rfl, Below.refl _ _⟩
  case round =>
    obtain ⟨j, hj, rfl, Hb⟩ := hrel
    by_cases hlt : j < M.length
    · obtain ⟨g, rfl, _, _, hrow⟩ := Hr.out (by omega)
      obtain ⟨g', rfl, _, _, hrow'⟩ := Hr'.out (by omega)
      obtain ⟨r, hr⟩ : ∃ r, M[j]? = some r := ⟨M[j], List.getElem?_eq_getElem hlt⟩
      have r1 := hrow.block (Hb.out.block _ hrow.lt) fun k _ _ hk => Hb.out.block k hk
      have r2 := hrow'.block (Hb.out.block _ hrow'.lt) fun k _ _ hk => Hb.out.block k hk
      obtain ⟨p, pc, c0, hd1⟩ := r1.cell hr
      obtain ⟨q, qc, c1, hd2⟩ := r2.cell hr
      have He := Lib.hid (fun W (h1 : Hid (DSl W B (.slice p r.length pc) r)) (h2 : Hid (DSl W D (.slice q r.length qc) r)) => eqDs B D (.slice p r.length pc) (.slice q r.length qc) r W h1.out h2.out (by have := amps_row hr; omega))
      have hS : SP2 w g g' j B D (.slice p r.length pc) (.slice q r.length qc) r r wr := ⟨c0, c1, r1.lt, r2.lt, Lib.hid hd1.dsl, Lib.hid hd2.dsl, Hb.out⟩
      clear hd1 hd2 r1 r2 hrow hrow'
      go_upto_region 6 with fail
      go_region_held3 (fun w' => w'.cell? ⟨g, j, none⟩ = some (.slice p r.length pc) ∧ w'.cell? ⟨g', j, none⟩ = some (.slice q r.length qc) ∧ g < w'.heap.size ∧ g' < w'.heap.size ∧ Hid (DSl w' B (.slice p r.length pc) r) ∧ Hid (DSl w' D (.slice q r.length qc) r) ∧ Below w.heap.size w w') (first | (show SP2 w g g' j B D (.slice p r.length pc) (.slice q r.length qc) r r _; (with_reducible exact hS.drew)) | (show SP2 w g g' j B D (.slice p r.length pc) (.slice q r.length qc) r r _; (with_reducible refine SP2.below ?_ hbR); first | assumption | exact ⟨by assumption, by assumption, by assumption, by assumption, by assumption, by assumption, by assumption⟩))
        (first | (go_at_call 44; (with_reducible refine (He.out _ hS.drew.one hS.drew.two).mono ?_); rintro e wR ⟨rfl, hbR⟩))
      have Hb2 := Lib.hid (below_up Hb.out.drew hbR Hb.out.size)
      go_wp2_with fail
      go_roundw
      case rel => exact ⟨j + 1, by omega, by go_num, Hb2⟩
      case measure => simp [intOf]; omega
    · obtain rfl : j = M.length := by omega
      go_wp2_with fail
      go_ret
      exact ⟨rfl, Hb.out⟩
end Go.Proofs.Ytlmiebeffdcfhaa
