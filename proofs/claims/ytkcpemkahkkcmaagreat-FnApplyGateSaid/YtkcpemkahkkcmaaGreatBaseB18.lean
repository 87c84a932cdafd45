/- BaseB18: several of our texts in one: MtL DsKs IsL IsO. -/
import Derived.Test.YtkcpemkahkkcmaaGreatMtR
import Derived.Test.YtkcpemkahkkcmaaGreatBaseB08
import Derived.Test.YtkcpemkahkkcmaaGreatBaseB14
import Derived.Test.YtkcpemkahkkcmaaGreatDsD
import Derived.Test.YtkcpemkahkkcmaaGreatBaseB13
import Derived.Deep.Slices
import Derived.OpenShut
namespace Go.Proofs.YtkcpemkahkkcmaaGreat
open Go.RowKit
/-- A matrix of the laws' fractions that came in. -/
def MtIn (w : World) (B : Nat) (a0 : Option Addr) (M : List (List Dw)) : Prop :=
  M.length ≤ maxLen ∧ (0 < M.length → ∃ b off, a0 = some ⟨b, off, none⟩ ∧ b < B ∧ ∀ j r, M[j]? = some r → ∃ a cap, w.cell? ⟨b, off + j, none⟩ = some (.slice a r.length cap) ∧ DsIn w B a r)
theorem MtIn.below {w w' : World} {B : Nat} {a0 : Option Addr} {M : List (List Dw)} (h : MtIn w B a0 M) (hb : Below B w w') : MtIn w' B a0 M :=
  ⟨h.1, fun h0 => by
    obtain ⟨b, off, e, hlt, hc⟩ := h.2 h0
    refine ⟨b, off, e, hlt, fun j r hr => ?_⟩
    obtain ⟨a, cap, c0, hd⟩ := hc j r hr
    exact ⟨a, cap, (hb.cell (by exact hlt)).trans c0, hd.below hb⟩⟩
theorem MtIn.mono {w : World} {B C : Nat} {a0 : Option Addr} {M : List (List Dw)} (h : MtIn w B a0 M) (hC : B ≤ C) : MtIn w C a0 M :=
  ⟨h.1, fun h0 => by
    obtain ⟨b, off, e, hlt, hc⟩ := h.2 h0
    refine ⟨b, off, e, by omega, fun j r hr => ?_⟩
    obtain ⟨a, cap, c0, hd⟩ := hc j r hr
    exact ⟨a, cap, c0, hd.mono hC⟩⟩
/-- The exponents of a matrix are machine integers. -/
def EbM (M : List (List Dw)) : Prop := ∀ r ∈ M, Eb r
theorem MtIn.eb {w : World} {B : Nat} {a0 : Option Addr} {M : List (List Dw)} (h : MtIn w B a0 M) : EbM M := by
  intro r hr
  obtain ⟨j, hj⟩ := List.getElem?_of_mem hr
  have h0 : 0 < M.length := by
    rcases Nat.eq_zero_or_pos M.length with k | k
    · rw [List.eq_nil_of_length_eq_zero k] at hj; simp at hj
    · exact k
  obtain ⟨b, off, e, hlt, hc⟩ := h.2 h0
  obtain ⟨a, cap, _, hd⟩ := hc j r hj
  exact hd.eb
/-- The amplitudes of a matrix. -/
def amps (M : List (List Dw)) : Nat := (M.map List.length).sum
theorem amps_step {M : List (List Dw)} {j : Nat} {r : List Dw} (hr : M[j]? = some r) : amps (M.take (j + 1)) = amps (M.take j) + r.length := by
  unfold amps
  rw [List.take_add_one, hr]
  simp
theorem amps_le {M : List (List Dw)} (j : Nat) : amps (M.take j) ≤ amps M := by
  unfold amps
  conv => rhs; rw [← List.take_append_drop j M, List.map_append, List.sum_append]
  omega
theorem amps_row {M : List (List Dw)} {j : Nat} {r : List Dw} (hr : M[j]? = some r) : r.length ≤ amps M := by
  have h1 := amps_step hr
  have h2 := amps_le (M := M) (j + 1)
  omega
theorem infoDs : (Tryz.prog.info? 26).map (fun i => (i.zero, i.size, i.bytes)) = some (some (.slice none 0 0), 1, 24) := by kernel_rfl
theorem made_slices (n : Nat) : (madeCells #[.slice none 0 0] (n * 1)).toList = List.replicate n (.slice none 0 0) := by
  induction n with
  | zero => simp [madeCells]
  | succ n ih =>
    rw [List.replicate_succ', ← ih, show (n + 1) * 1 = n * 1 + 1 by omega]
    simp only [madeCells, Array.toList_map, Array.toList_range, List.range_succ, List.map_append, List.map_cons, List.map_nil]
    congr 1
    simp [Nat.mod_one]
theorem rows_nil {w : World} {B C n : Nat} : RwS w B C (List.replicate n (.slice none 0 0)) (List.replicate n []) := by
  refine ⟨by simp, fun _ => 0, fun j v r hv hr => ?_, fun i j r s hr _ ls _ _ => ?_⟩
  · rw [List.getElem?_replicate] at hv hr
    split at hv
    · split at hr
      · injection hv with hv; injection hr with hr; subst hv hr
        exact ⟨none, 0, rfl, Nat.le_refl _, fun h => absurd h (by simp)⟩
      · omega
    · cases hv
  · rw [List.getElem?_replicate] at hr
    split at hr
    · injection hr with hr; subst hr; simp at ls
    · cases hr
theorem halfM_at {M : List (List Dw)} {j : Nat} (h : j < M.length) : (M.take j ++ List.replicate (M.length - j) ([] : List Dw))[j]? = some [] := by
  rw [List.getElem?_append_right (by simp; omega), List.getElem?_replicate, if_pos (by simp; omega)]
theorem halfM_set {M : List (List Dw)} {j : Nat} {r : List Dw} (hr : M[j]? = some r) : (M.take j ++ List.replicate (M.length - j) []).set j r = M.take (j + 1) ++ List.replicate (M.length - (j + 1)) [] := by
  have h : j < M.length := by
    rcases Nat.lt_or_ge j M.length with h' | h'
    · exact h'
    · rw [List.getElem?_eq_none h'] at hr; cases hr
  rw [List.set_append_right _ _ (by simp; omega), List.take_add_one, hr]
  rw [show M.length - j = (M.length - (j + 1)) + 1 by omega, List.replicate_succ, show j - (M.take j).length = 0 by simp; omega]
  simp
attribute [local irreducible] World.cell?
end Go.Proofs.YtkcpemkahkkcmaaGreat
namespace Go.Proofs.YtkcpemkahkkcmaaGreat
open Go.RowKit
/-- A sum of numbers, from a number on. -/
def sumD : Dw → List Dw → Option Dw
  | s, [] => some s
  | s, z :: r => if dAddB s z then sumD (dAddV s z) r else none
theorem sum_step {s z : Dw} {l : List Dw} {j : Nat} (hz : l[j]? = some z) : sumD s (l.drop j) = if dAddB s z then sumD (dAddV s z) (l.drop (j + 1)) else none := by
  have hj : j < l.length := by
    rcases Nat.lt_or_ge j l.length with h' | h'
    · exact h'
    · rw [List.getElem?_eq_none h'] at hz; cases hz
  rw [List.getElem?_eq_getElem hj] at hz
  injection hz with hz
  rw [← List.getElem_cons_drop hj, hz]
  rfl
attribute [local irreducible] World.cell?
set_option maxRecDepth 100000 in
set_option maxHeartbeats 3200000 in
theorem isumOf (B : Nat) (v : Value) (P : List Dw) (w : World) (hv : DSl w B v P) (he : Eb P) (hm : P.length ≤ 16) :
    Calls Tryz.prog 71 #[v] w fun e w' => e = .returned (.tuple #[(.agg #[.int .i64 ((sumD .zero P).getD .zero).n.a, .int .i64 ((sumD .zero P).getD .zero).n.b, .int .i64 ((sumD .zero P).getD .zero).n.c, .int .i64 ((sumD .zero P).getD .zero).n.d, .int .i64 ((sumD .zero P).getD .zero).e]), .bool (sumD .zero P).isSome]) ∧ Below w.heap.size w w' := by
  obtain ⟨V, hV⟩ : ∃ V, V = (sumD .zero P).getD .zero := ⟨_, rfl⟩
  obtain ⟨T, hT⟩ : ∃ T, T = (sumD .zero P).isSome := ⟨_, rfl⟩
  rw [← hV, ← hT]
  have HV := Lib.hid hV
  have HT := Lib.hid hT
  have HE := Lib.hid he
  clear hV hT he
  have Hr0_0 := Lib.hid (alloc_blk (.cells #[.int .i64 0, .int .i64 0, .int .i64 0, .int .i64 0, .int .i64 0] 54) (heap_alloc_new w (.cells #[.int .i64 0, .int .i64 0, .int .i64 0, .int .i64 0, .int .i64 0] 54)))
  have Hr0_1 := Lib.hid (show ((w.alloc (.cells #[.int .i64 0, .int .i64 0, .int .i64 0, .int .i64 0, .int .i64 0] 54)).alloc (.cells #[.int .i64 0, .int .i64 0, .int .i64 0, .int .i64 0, .int .i64 0] 54)).heap[w.heap.size + 1]? = some (.cells #[.int .i64 0, .int .i64 0, .int .i64 0, .int .i64 0, .int .i64 0] 54 (0, 0)) from by simpa using heap_alloc_new (w.alloc (.cells #[.int .i64 0, .int .i64 0, .int .i64 0, .int .i64 0, .int .i64 0] 54)) (.cells #[.int .i64 0, .int .i64 0, .int .i64 0, .int .i64 0, .int .i64 0] 54))
  obtain ⟨p, cap, rfl, hcap, hr⟩ := hv
  have Hr := Lib.hid hr
  clear hr
  go_enter Tryz.func71, Tryz.ntmps71
  go_wp2_with fail
  go_loopg [11] P.length (fun k i wr => ∃ (j : Nat) (s : Dw), k = P.length - j ∧ j ≤ P.length ∧ i = .int .i64 j ∧ Hid (sumD s (P.drop j) = sumD .zero P) ∧ Hid s.ok ∧ Hid (wr.heap[w.heap.size + 1]? = some (.cells #[.int .i64 s.n.a, .int .i64 s.n.b, .int .i64 s.n.c, .int .i64 s.n.d, .int .i64 s.e] 54)) ∧ Hid (wr.heap[w.heap.size]? = some (.cells #[.int .i64 0, .int .i64 0, .int .i64 0, .int .i64 0, .int .i64 0] 54)) ∧ Hid (Below w.heap.size w wr))
  case atStart => exact ⟨0, .zero, rfl, Nat.zero_le _, rfl, Lib.hid rfl, Lib.hid zero_ok, Hr0_1, Hr0_0, ((Below.refl _ _).alloc (Nat.le_refl _) _).alloc (by simp) _⟩
  case round =>
    obtain ⟨j, s, rfl, hj, rfl, HI, Hs, HS, HR, Hb⟩ := hrel
    by_cases hlt : j < P.length
    · obtain ⟨g, rfl, _, hrow⟩ := Hr.out (by omega)
      obtain ⟨z, hz⟩ : ∃ z, P[j]? = some z := ⟨P[j], List.getElem?_eq_getElem hlt⟩
      have r1 := hrow.below Hb.out hrow.lt
      obtain ⟨c0, c1, c2, c3, c4⟩ := r1.cells hz
      have hes := ok_eb Hs.out
      have hez := HE.out z (List.mem_of_getElem? hz)
      have Hadd := Lib.hid (fun w => iaddD_any s z w hes.1 hes.2 hez.1 hez.2)
      have Hstep := Lib.hid (sum_step (s := s) hz)
      have Hn := Lib.hid (fun h => dAddV_ok (x := s) (y := z) h)
      have hs := Hb.out.size
      have Hba := Lib.hid (Hb.out.alloc hs (.cells #[.int .i64 z.n.a, .int .i64 z.n.b, .int .i64 z.n.c, .int .i64 z.n.d, .int .i64 z.e] 54))
      have HSa := Lib.hid (alloc_blk (.cells #[.int .i64 z.n.a, .int .i64 z.n.b, .int .i64 z.n.c, .int .i64 z.n.d, .int .i64 z.e] 54) HS.out)
      have HRa := Lib.hid (alloc_blk (.cells #[.int .i64 z.n.a, .int .i64 z.n.b, .int .i64 z.n.c, .int .i64 z.n.d, .int .i64 z.e] 54) HR.out)
      obtain ⟨q0, q1, q2, q3, q4⟩ := blk_cells5 HSa.out
      clear hz hrow r1 hes hez
      generalize dAddV s z = n at *
      generalize dAddB s z = t at *
      go_wp2_with fail
      refine (Hadd.out _).mono ?_
      rintro e w4 ⟨rfl, hb4⟩
      have HS4 := Lib.hid (below_blk hb4 (lt_of_block HSa.out) HSa.out)
      have HR4 := Lib.hid (below_blk hb4 (lt_of_block HRa.out) HRa.out)
      have Hb4 := Lib.hid (below_nx Hba.out hb4)
      have hs4 := Hb4.out.size
      have hz4 := lt_of_block HS4.out
      have hy4 := lt_of_block HR4.out
      clear hb4 Hadd q0 q1 q2 q3 q4 HS HR HSa HRa Hb
      obtain ⟨e0, e1, e2, e3, e4⟩ := blk_cells5 HR4.out
      obtain ⟨q0, q1, q2, q3, q4⟩ := blk_cells5 HS4.out
      have f1 := fun o => free_at HR4.out o
      have f2 := fun o => free_at HS4.out o
      have hne : w.heap.size ≠ w.heap.size + 1 := by omega
      cases t with
      | false =>
        have h := Hstep.out.symm.trans HI.out
        simp only [Bool.false_eq_true, if_false] at h
        obtain rfl : V = .zero := HV.out.trans (by rw [← h]; rfl)
        obtain rfl : T = false := HT.out.trans (by rw [← h]; rfl)
        go_wp2_with fail
        obtain ⟨k0, k1, k2, k3, k4⟩ := blk_cells5 (alloc_blk (.cells #[.int .i64 n.n.a, .int .i64 n.n.b, .int .i64 n.n.c, .int .i64 n.n.d, .int .i64 n.e] 54) (set5_at (u0 := .int .i64 0) (u1 := .int .i64 0) (u2 := .int .i64 0) (u3 := .int .i64 0) (u4 := .int .i64 0) HR4.out))
        refine bodyPost_ret (v := .tuple #[(.agg #[.int .i64 Dw.zero.n.a, .int .i64 Dw.zero.n.b, .int .i64 Dw.zero.n.c, .int .i64 Dw.zero.n.d, .int .i64 Dw.zero.e]), .bool false]) (by simp only [results, Tryz.results71]; simp [go_sem, k0, k1, k2, k3, k4, Dw.zero, Zw.zero]) rfl ⟨rfl, ?_⟩
        have := Hb4.out
        go_grown
      | true =>
        have h := Hstep.out.symm.trans HI.out
        simp only [if_true] at h
        have Hsn := Lib.hid (alloc_blk (.cells #[.int .i64 n.n.a, .int .i64 n.n.b, .int .i64 n.n.c, .int .i64 n.n.d, .int .i64 n.e] 54) (set5_at (u0 := .int .i64 n.n.a) (u1 := .int .i64 n.n.b) (u2 := .int .i64 n.n.c) (u3 := .int .i64 n.n.d) (u4 := .int .i64 n.e) HS4.out))
        have Hrn := Lib.hid (alloc_blk (.cells #[.int .i64 n.n.a, .int .i64 n.n.b, .int .i64 n.n.c, .int .i64 n.n.d, .int .i64 n.e] 54) (set5_blk (g := w.heap.size + 1) (u0 := .int .i64 n.n.a) (u1 := .int .i64 n.n.b) (u2 := .int .i64 n.n.c) (u3 := .int .i64 n.n.d) (u4 := .int .i64 n.e) hne HR4.out))
        go_wp2_with fail
        go_roundg (P.length - (j + 1))
        case measure => omega
        case rel =>
          refine ⟨j + 1, n, rfl, by omega, by go_num, Lib.hid h, Lib.hid (Hn.out (by trivial)), Hsn, Hrn, ?_⟩
          have := Hb4.out
          show Below _ _ _
          go_grown
    · obtain rfl : j = P.length := by omega
      have h := HI.out
      rw [List.drop_of_length_le (Nat.le_refl _)] at h
      obtain rfl : V = s := HV.out.trans (by rw [← h]; rfl)
      obtain rfl : T = true := HT.out.trans (by rw [← h]; rfl)
      obtain ⟨q0, q1, q2, q3, q4⟩ := blk_cells5 HS.out
      obtain ⟨e0, e1, e2, e3, e4⟩ := blk_cells5 HR.out
      have f1 := fun o => free_at HR.out o
      have hrl := lt_of_block HR.out
      go_wp2_with fail
      obtain ⟨k0, k1, k2, k3, k4⟩ := blk_cells5 (set5_at (u0 := .int .i64 V.n.a) (u1 := .int .i64 V.n.b) (u2 := .int .i64 V.n.c) (u3 := .int .i64 V.n.d) (u4 := .int .i64 V.e) HR.out)
      refine bodyPost_ret (v := .tuple #[(.agg #[.int .i64 V.n.a, .int .i64 V.n.b, .int .i64 V.n.c, .int .i64 V.n.d, .int .i64 V.e]), .bool true]) (by simp only [results, Tryz.results71]; simp [go_sem, k0, k1, k2, k3, k4]) rfl ⟨rfl, ?_⟩
      have := Hb.out
      go_grown
end Go.Proofs.YtkcpemkahkkcmaaGreat
namespace Go.Proofs.YtkcpemkahkkcmaaGreat
open Go.RowKit
/-- A slice of integers that came in. -/
def IsIn (w : World) (B : Nat) (a0 : Option Addr) (l : List Int) : Prop :=
  l.length ≤ maxLen ∧ (∀ x ∈ l, -9223372036854775808 ≤ x ∧ x ≤ 9223372036854775807) ∧
  (0 < l.length → ∃ b off, a0 = some ⟨b, off, none⟩ ∧ b < B ∧ ∀ j x, l[j]? = some x → w.cell? ⟨b, off + j, none⟩ = some (.int .i64 x))
theorem IsIn.below {w w' : World} {B : Nat} {a0 : Option Addr} {l : List Int} (h : IsIn w B a0 l) (hb : Below B w w') : IsIn w' B a0 l :=
  ⟨h.1, h.2.1, fun h0 => by
    obtain ⟨b, off, e, hlt, hc⟩ := h.2.2 h0
    exact ⟨b, off, e, hlt, fun j x hx => (hb.cell (by exact hlt)).trans (hc j x hx)⟩⟩
theorem IsIn.mono {w : World} {B C : Nat} {a0 : Option Addr} {l : List Int} (h : IsIn w B a0 l) (hC : B ≤ C) : IsIn w C a0 l :=
  ⟨h.1, h.2.1, fun h0 => by obtain ⟨b, off, e, hlt, hc⟩ := h.2.2 h0; exact ⟨b, off, e, by omega, hc⟩⟩
attribute [local irreducible] World.cell?
end Go.Proofs.YtkcpemkahkkcmaaGreat
namespace Go.Proofs.YtkcpemkahkkcmaaGreat
open Go.ChangeShapes Go.WideShapes Go.ChangeAt Go.RowKit Go.Lib Go.Joins
open Go.RowKit
end Go.Proofs.YtkcpemkahkkcmaaGreat
