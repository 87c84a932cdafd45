/- BaseB14: several of our texts in one: MtL MtQ DsKa. -/
import Derived.Test.YtmpafidkpangeaaGreatBaseB03
import Derived.Test.YtmpafidkpangeaaGreatBaseB20
import Derived.Test.YtmpafidkpangeaaGreatBaseB11
import Derived.Test.YtmpafidkpangeaaGreatBaseB06
import Derived.Test.YtmpafidkpangeaaGreatBaseB25
namespace Go.Proofs.YtmpafidkpangeaaGreat
open Go.RowKit
/-- A matrix of the laws' fractions that came in. -/
def MtIn (w : World) (B : Nat) (a0 : Option Addr) (M : List (List Dw)) : Prop :=
  M.length ≤ maxLen ∧ (0 < M.length → ∃ b off, a0 = some ⟨b, off, none⟩ ∧ b < B ∧ ∀ j r, M[j]? = some r → ∃ a cap, w.cell? ⟨b, off + j, none⟩ = some (.slice a r.length cap) ∧ DsIn w B a r)
theorem MtIn.below {w w' : World} {B : Nat} {a0 : Option Addr} {M : List (List Dw)} (h : MtIn w B a0 M) (hb : Below B w w') : MtIn w' B a0 M :=
  ⟨h.1, fun h0 => by
    obtain ⟨b, off, e, hlt, hc⟩ := h.2 h0
    refine ⟨b, off, e, hlt, fun j r hr => ?_⟩
    obtain ⟨a, cap, c0, hd⟩ := hc j r hr
    exact ⟨a, cap, (hb.cell (by exact hlt)).trans c0, hd.below hb⟩⟩
theorem MtIn.mono {w : World} {B C : Nat} {a0 : Option Addr} {M : List (List Dw)} (h : MtIn w B a0 M) (hC : B ≤ C) : MtIn w C a0 M :=
  ⟨h.1, fun h0 => by
    obtain ⟨b, off, e, hlt, hc⟩ := h.2 h0
    refine ⟨b, off, e, by omega, fun j r hr => ?_⟩
    obtain ⟨a, cap, c0, hd⟩ := hc j r hr
    exact ⟨a, cap, c0, hd.mono hC⟩⟩
/-- The exponents of a matrix are machine integers. -/
def EbM (M : List (List Dw)) : Prop := ∀ r ∈ M, Eb r
theorem MtIn.eb {w : World} {B : Nat} {a0 : Option Addr} {M : List (List Dw)} (h : MtIn w B a0 M) : EbM M := by
  intro r hr
  obtain ⟨j, hj⟩ := List.getElem?_of_mem hr
  have h0 : 0 < M.length := by
    rcases Nat.eq_zero_or_pos M.length with k | k
    · rw [List.eq_nil_of_length_eq_zero k] at hj; simp at hj
    · exact k
  obtain ⟨b, off, e, hlt, hc⟩ := h.2 h0
  obtain ⟨a, cap, _, hd⟩ := hc j r hj
  exact hd.eb
/-- The amplitudes of a matrix. -/
def amps (M : List (List Dw)) : Nat := (M.map List.length).sum
theorem amps_step {M : List (List Dw)} {j : Nat} {r : List Dw} (hr : M[j]? = some r) : amps (M.take (j + 1)) = amps (M.take j) + r.length := by
  unfold amps
  rw [List.take_add_one, hr]
  simp
theorem amps_le {M : List (List Dw)} (j : Nat) : amps (M.take j) ≤ amps M := by
  unfold amps
  conv => rhs; rw [← List.take_append_drop j M, List.map_append, List.sum_append]
  omega
theorem amps_row {M : List (List Dw)} {j : Nat} {r : List Dw} (hr : M[j]? = some r) : r.length ≤ amps M := by
  have h1 := amps_step hr
  have h2 := amps_le (M := M) (j + 1)
  omega
theorem infoDs : (Tryz.prog.info? 36).map (fun i => (i.zero, i.size, i.bytes)) = some (some (.slice none 0 0), 1, 24) := by kernel_rfl
theorem made_slices (n : Nat) : (madeCells #[.slice none 0 0] (n * 1)).toList = List.replicate n (.slice none 0 0) := by
  induction n with
  | zero => simp [madeCells]
  | succ n ih =>
    rw [List.replicate_succ', ← ih, show (n + 1) * 1 = n * 1 + 1 by omega]
    simp only [madeCells, Array.toList_map, Array.toList_range, List.range_succ, List.map_append, List.map_cons, List.map_nil]
    congr 1
    simp [Nat.mod_one]
theorem rows_nil {w : World} {B C n : Nat} : RwS w B C (List.replicate n (.slice none 0 0)) (List.replicate n []) := by
  refine ⟨by simp, fun _ => 0, fun j v r hv hr => ?_, fun i j r s hr _ ls _ _ => ?_⟩
  · rw [List.getElem?_replicate] at hv hr
    split at hv
    · split at hr
      · injection hv with hv; injection hr with hr; subst hv hr
        exact ⟨none, 0, rfl, Nat.le_refl _, fun h => absurd h (by simp)⟩
      · omega
    · cases hv
  · rw [List.getElem?_replicate] at hr
    split at hr
    · injection hr with hr; subst hr; simp at ls
    · cases hr
theorem halfM_at {M : List (List Dw)} {j : Nat} (h : j < M.length) : (M.take j ++ List.replicate (M.length - j) ([] : List Dw))[j]? = some [] := by
  rw [List.getElem?_append_right (by simp; omega), List.getElem?_replicate, if_pos (by simp; omega)]
theorem halfM_set {M : List (List Dw)} {j : Nat} {r : List Dw} (hr : M[j]? = some r) : (M.take j ++ List.replicate (M.length - j) []).set j r = M.take (j + 1) ++ List.replicate (M.length - (j + 1)) [] := by
  have h : j < M.length := by
    rcases Nat.lt_or_ge j M.length with h' | h'
    · exact h'
    · rw [List.getElem?_eq_none h'] at hr; cases hr
  rw [List.set_append_right _ _ (by simp; omega), List.take_add_one, hr]
  rw [show M.length - j = (M.length - (j + 1)) + 1 by omega, List.replicate_succ, show j - (M.take j).length = 0 by simp; omega]
  simp
attribute [local irreducible] World.cell?
end Go.Proofs.YtmpafidkpangeaaGreat
namespace Go.Proofs.YtmpafidkpangeaaGreat
open Go.RowKit
attribute [local irreducible] World.cell?
set_option maxRecDepth 100000 in
set_option maxHeartbeats 1600000 in
theorem svalidMt (B C : Nat) (v : Value) (M : List (List Dw)) (w : World) (hv : DSM w B C v M) (hn : M.length ≤ 1048576) (hm : amps M ≤ 1048576) :
    Calls Tryz.prog 48 #[v] w fun e w' => e = .returned (.bool (mtB M)) ∧ Below w.heap.size w w' := by
  obtain ⟨a, cap, rfl, hcap, hr⟩ := hv
  have Hr := Lib.hid hr
  clear hr
  obtain ⟨R, hR⟩ : ∃ R, R = mtB M := ⟨_, rfl⟩
  rw [← hR]
  have HR := Lib.hid hR
  clear hR
  go_enter Tryz.func48, Tryz.ntmps48
  go_wp2_with fail
  go_loopg [3] M.length (fun k i wr => ∃ j : Nat, k = M.length - j ∧ j ≤ M.length ∧ i = .int .i64 j ∧ Hid ((M.take j).all (fun r => decide (r.length = M.length) && stB r) = true) ∧ Hid (Below w.heap.size w wr))
  case atStart => exact ⟨0, rfl, Nat.zero_le _, rfl, rfl, Below.refl _ _⟩
  case round =>
    obtain ⟨j, rfl, hj, rfl, Hall, Hb⟩ := hrel
    by_cases hlt : j < M.length
    · obtain ⟨g, rfl, _, _, hrow⟩ := Hr.out (by omega)
      obtain ⟨r, hr⟩ : ∃ r, M[j]? = some r := ⟨M[j], List.getElem?_eq_getElem hlt⟩
      have r1 := hrow.block (Hb.out.block _ hrow.lt) fun k _ _ hk => Hb.out.block k hk
      obtain ⟨p, pc, c0, hd1⟩ := r1.cell hr
      have Hd1 := Lib.hid hd1.dsl
      have Hat := Lib.hid (all_take (p := fun r => decide (r.length = M.length) && stB r) hr Hall.out)
      have Hno := Lib.hid (fun h => all_no (p := fun r => decide (r.length = M.length) && stB r) hr h)
      have He := Lib.hid (fun W (h1 : DSl W B (.slice p r.length pc) r) => svalidSt B (.slice p r.length pc) r W h1 (by have := amps_row hr; omega))
      have hrl := amps_row hr
      clear hd1 r1 hrow hr
      by_cases hlen : r.length = M.length
      · rw [hlen] at c0 He Hd1
        have Hlen := Lib.hid hlen
        clear hlen hrl
        have hd2 : ((M.length : Int) != M.length) = false := by simp
        cases hs : stB r with
        | false =>
          have hS : mtB M = false := by unfold mtB; rw [Hno.out (by rw [hs]; simp)]; simp
          obtain rfl : R = false := HR.out.trans hS
          rw [hs] at He
          go_wp2_with fail
          refine (He.out _ Hd1.out).mono ?_
          rintro e w2 ⟨rfl, hb2⟩
          have Hb2 := Lib.hid (below_up Hb.out hb2 Hb.out.size)
          clear hb2
          go_wp2_with fail
          go_ret
          exact ⟨rfl, Hb2.out⟩
        | true =>
          rw [hs] at He
          go_wp2_with fail
          refine (He.out _ Hd1.out).mono ?_
          rintro e w2 ⟨rfl, hb2⟩
          have Hb2 := Lib.hid (below_up Hb.out hb2 Hb.out.size)
          clear hb2
          go_wp2_with fail
          go_roundg (M.length - (j + 1))
          case measure => omega
          case rel => exact ⟨j + 1, rfl, by omega, by go_num, Lib.hid (by rw [Hat.out, hs, decide_eq_true Hlen.out]; rfl), Hb2⟩
      · have hS : mtB M = false := by unfold mtB; rw [Hno.out (by rw [decide_eq_false hlen]; rfl)]; simp
        obtain rfl : R = false := HR.out.trans hS
        have hd : ((r.length : Int) != (M.length : Int)) = true := by simp; omega
        go_wp2_with fail
        go_ret
        exact ⟨rfl, Hb.out⟩
    · obtain rfl : j = M.length := by omega
      have hall := Hall.out
      rw [List.take_length] at hall
      have hS : mtB M = decide (0 < M.length) := by unfold mtB; rw [hall, Bool.and_true]
      by_cases h0 : 0 < M.length
      · obtain rfl : R = true := HR.out.trans (hS.trans (decide_eq_true h0))
        go_wp2_with fail
        go_returns
        exact ⟨by simp <;> omega, Hb.out⟩
      · obtain rfl : R = false := HR.out.trans (hS.trans (decide_eq_false h0))
        go_wp2_with fail
        go_returns
        exact ⟨by simp <;> omega, Hb.out⟩
theorem eq_takeM {a b : List (List Dw)} {j : Nat} {x y : List Dw} (hx : a[j]? = some x) (hy : b[j]? = some y) (h : a.take j = b.take j) (hxy : x = y) : a.take (j + 1) = b.take (j + 1) := by
  rw [List.take_add_one, List.take_add_one, h, hx, hy, hxy]
set_option maxRecDepth 100000 in
set_option maxHeartbeats 1600000 in
theorem sequalMt (B C D E : Nat) (v u : Value) (M N : List (List Dw)) (w : World) (hv : DSM w B C v M) (hu : DSM w D E u N) (hn : M.length ≤ 1048576) (_ : N.length ≤ 1048576) (hm : amps M ≤ 1048576) (hm' : amps N ≤ 1048576) :
    Calls Tryz.prog 11 #[v, u] w fun e w' => e = .returned (.bool (decide (M = N))) ∧ Below w.heap.size w w' := by
  obtain ⟨a, cap, rfl, hcap, hr⟩ := hv
  obtain ⟨a', cap', rfl, hcap', hr'⟩ := hu
  have Hr := Lib.hid hr
  have Hr' := Lib.hid hr'
  clear hr hr'
  by_cases hl : M.length = N.length
  · obtain ⟨R, hR⟩ : ∃ R, R = decide (M = N) := ⟨_, rfl⟩
    rw [← hR]
    have HR := Lib.hid hR
    clear hR
    rw [← hl] at Hr' hcap' ⊢
    have Hl := Lib.hid hl
    clear hl
    have hd2 : ((M.length : Int) != M.length) = false := by simp
    go_enter Tryz.func11, Tryz.ntmps11
    go_wp2_with fail
    go_loopg [5] M.length (fun k i wr => ∃ j : Nat, k = M.length - j ∧ j ≤ M.length ∧ i = .int .i64 j ∧ Hid (M.take j = N.take j) ∧ Hid (Below w.heap.size w wr))
    case atStart => exact ⟨0, rfl, Nat.zero_le _, rfl, rfl, Below.refl _ _⟩
    case round =>
      obtain ⟨j, rfl, hj, rfl, Heq, Hb⟩ := hrel
      by_cases hlt : j < M.length
      · obtain ⟨g, rfl, _, _, hrow⟩ := Hr.out (by omega)
        obtain ⟨g', rfl, _, _, hrow'⟩ := Hr'.out (by omega)
        obtain ⟨x, hx⟩ : ∃ r, M[j]? = some r := ⟨M[j], List.getElem?_eq_getElem hlt⟩
        obtain ⟨y, hy⟩ : ∃ r, N[j]? = some r := ⟨N[j]'(by have := Hl.out; omega), List.getElem?_eq_getElem _⟩
        have r1 := hrow.block (Hb.out.block _ hrow.lt) fun k _ _ hk => Hb.out.block k hk
        have r2 := hrow'.block (Hb.out.block _ hrow'.lt) fun k _ _ hk => Hb.out.block k hk
        obtain ⟨p, pc, c0, hd1⟩ := r1.cell hx
        obtain ⟨q, qc, c1, hd2⟩ := r2.cell hy
        have hgl := r1.lt
        have hgl' := r2.lt
        have Hx := Lib.hid hx
        have Hy := Lib.hid hy
        have He := Lib.hid (fun W (h1 : Hid (DSl W B (.slice p x.length pc) x)) (h2 : Hid (DSl W D (.slice q y.length qc) y)) => sequalSt B D (.slice p x.length pc) (.slice q y.length qc) x y W h1.out h2.out (by have := amps_row hx; omega) (by have := amps_row hy; omega))
        have Hd1 := Lib.hid hd1.dsl
        have Hd2 := Lib.hid hd2.dsl
        have hS : SP2 w g g' j B D (.slice p x.length pc) (.slice q y.length qc) x y wr := ⟨c0, c1, hgl, hgl', Hd1, Hd2, Hb.out⟩
        clear hd1 hd2 r1 r2 hrow hrow' hx hy
        by_cases hxy : x = y
        · rw [decide_eq_true hxy] at He
          have Hxy := Lib.hid hxy
          clear hxy
          go_upto_region 6 with fail
          go_region_held3 (fun w' => w'.cell? ⟨g, j, none⟩ = some (.slice p x.length pc) ∧ w'.cell? ⟨g', j, none⟩ = some (.slice q y.length qc) ∧ g < w'.heap.size ∧ g' < w'.heap.size ∧ Hid (DSl w' B (.slice p x.length pc) x) ∧ Hid (DSl w' D (.slice q y.length qc) y) ∧ Below w.heap.size w w') (first | (show SP2 w g g' j B D (.slice p x.length pc) (.slice q y.length qc) x y _; (with_reducible exact hS.drew)) | (show SP2 w g g' j B D (.slice p x.length pc) (.slice q y.length qc) x y _; (with_reducible refine SP2.below ?_ hbR); first | assumption | exact ⟨by assumption, by assumption, by assumption, by assumption, by assumption, by assumption, by assumption⟩))
            (first | (go_at_call 18; (with_reducible refine (He.out _ hS.drew.one hS.drew.two).mono ?_); rintro e wR ⟨rfl, hbR⟩))
          have Hb2 := Lib.hid (below_up Hb.out.drew hbR Hb.out.size)
          go_wp2_with fail
          go_roundg (M.length - (j + 1))
          case measure => omega
          case rel => exact ⟨j + 1, rfl, by omega, by go_num, Lib.hid (eq_takeM Hx.out Hy.out Heq.out Hxy.out), Hb2⟩
        · rw [decide_eq_false hxy] at He
          have hF : M ≠ N := fun h => hxy (by have h1 := Hx.out; rw [h, Hy.out] at h1; injection h1 with h1; exact h1.symm)
          obtain rfl : R = false := HR.out.trans (decide_eq_false hF)
          clear hF hxy
          go_upto_region 6 with fail
          go_region_held3 (fun w' => w'.cell? ⟨g, j, none⟩ = some (.slice p x.length pc) ∧ w'.cell? ⟨g', j, none⟩ = some (.slice q y.length qc) ∧ g < w'.heap.size ∧ g' < w'.heap.size ∧ Hid (DSl w' B (.slice p x.length pc) x) ∧ Hid (DSl w' D (.slice q y.length qc) y) ∧ Below w.heap.size w w') (first | (show SP2 w g g' j B D (.slice p x.length pc) (.slice q y.length qc) x y _; (with_reducible exact hS.drew)) | (show SP2 w g g' j B D (.slice p x.length pc) (.slice q y.length qc) x y _; (with_reducible refine SP2.below ?_ hbR); first | assumption | exact ⟨by assumption, by assumption, by assumption, by assumption, by assumption, by assumption, by assumption⟩))
            (first | (go_at_call 18; (with_reducible refine (He.out _ hS.drew.one hS.drew.two).mono ?_); rintro e wR ⟨rfl, hbR⟩))
          have Hb2 := Lib.hid (below_up Hb.out.drew hbR Hb.out.size)
          go_wp2_with fail
          go_ret
          exact ⟨rfl, Hb2.out⟩
      · obtain rfl : j = M.length := by omega
        have heq := Heq.out
        rw [List.take_length, Hl.out, List.take_length] at heq
        obtain rfl : R = true := HR.out.trans (decide_eq_true heq)
        go_wp2_with fail
        go_ret
        exact ⟨rfl, Hb.out⟩
  · rw [decide_eq_false (fun h => hl (by rw [h]))]
    have hd2 : ((M.length : Int) != N.length) = true := by simp; omega
    go_enter Tryz.func11, Tryz.ntmps11
    go_wp2_with fail
    go_ret
    exact ⟨rfl, Below.refl _ _⟩
end Go.Proofs.YtmpafidkpangeaaGreat
namespace Go.Proofs.YtmpafidkpangeaaGreat
open Go.RowKit
set_option maxRecDepth 100000 in
set_option maxHeartbeats 800000 in
theorem iqubits0 (a : Option Addr) (n cap : Nat) (w : World) :
    Calls Tryz.prog 47 #[.slice a n cap] w fun e w' => e = .returned (.int .i64 (qc n)) ∧ w = w' := by
  rcases qc_cases n with ⟨rfl, h⟩ | ⟨rfl, h⟩ | ⟨rfl, h⟩ | ⟨rfl, h⟩ | ⟨h2, h4, h8, h16, h⟩
  · rw [h]
    go_enter Tryz.func47, Tryz.ntmps47
    go_wp2_with fail
    go_rounds 5
    go_ret
    exact ⟨rfl, rfl⟩
  · rw [h]
    go_enter Tryz.func47, Tryz.ntmps47
    go_wp2_with fail
    go_rounds 5
    go_ret
    exact ⟨rfl, rfl⟩
  · rw [h]
    go_enter Tryz.func47, Tryz.ntmps47
    go_wp2_with fail
    go_rounds 5
    go_ret
    exact ⟨rfl, rfl⟩
  · rw [h]
    go_enter Tryz.func47, Tryz.ntmps47
    go_wp2_with fail
    go_rounds 5
    go_ret
    exact ⟨rfl, rfl⟩
  · rw [h]
    have e2 : ((n : Int) == 2) = false := by simp; omega
    have e4 : ((n : Int) == 4) = false := by simp; omega
    have e8 : ((n : Int) == 8) = false := by simp; omega
    have e16 : ((n : Int) == 16) = false := by simp; omega
    clear h2 h4 h8 h16 h
    go_enter Tryz.func47, Tryz.ntmps47
    go_wp2_with fail
    go_rounds 5
    go_ret
    exact ⟨rfl, rfl⟩
attribute [local irreducible] World.cell?
set_option maxRecDepth 100000 in
set_option maxHeartbeats 1600000 in
theorem ivalidSt (B : Nat) (v : Value) (l : List Dw) (w : World) (hv : DSl w B v l) (he : Eb l) (hm : l.length ≤ 1048576) :
    Calls Tryz.prog 56 #[v] w fun e w' => e = .returned (.bool (stB l)) ∧ Below w.heap.size w w' := by
  obtain ⟨a, cap, rfl, hcap, hr⟩ := hv
  have Hr := Lib.hid hr
  have He := Lib.hid he
  clear hr he
  have Hst := Lib.hid (show stB l = (l.all okD && decide (0 < qc l.length)) from rfl)
  generalize stB l = S at *
  have Hq := Lib.hid (fun w => iqubits0 a l.length cap w)
  have hqr := qc_range l.length
  generalize qc l.length = Q at *
  by_cases hq : Q = 0
  · subst hq
    obtain rfl : S = false := by rw [Hst.out]; simp
    go_enter Tryz.func56, Tryz.ntmps56
    go_wp2_with fail
    refine (Hq.out _).mono ?_
    rintro e w2 ⟨rfl, rfl⟩
    go_wp2_with fail
    go_ret
    exact ⟨rfl, Below.refl _ _⟩
  · have hq0 : (Q == 0) = false := by simpa using hq
    have Hp := Lib.hid (show decide (0 < Q) = true from decide_eq_true (by omega))
    clear hq
    go_enter Tryz.func56, Tryz.ntmps56
    go_wp2_with fail
    refine (Hq.out _).mono ?_
    rintro e w2 ⟨rfl, rfl⟩
    go_wp2_with fail
    go_loopw [10] (fun i wr => ∃ j : Nat, j ≤ l.length ∧ i = .int .i64 j ∧ Hid ((l.take j).all okD = true) ∧ Hid (Below w.heap.size w wr)) (fun i _ => l.length - (intOf i).toNat)
    case atStart => exact ⟨0, Nat.zero_le _, rfl, Lib.hid (by simp), Below.refl _ _⟩
    case round =>
      obtain ⟨j, hj, rfl, Hall, Hb⟩ := hrel
      by_cases hlt : j < l.length
      · obtain ⟨g, rfl, _, hrow⟩ := Hr.out (by omega)
        obtain ⟨x, hx⟩ : ∃ x, l[j]? = some x := ⟨l[j], List.getElem?_eq_getElem hlt⟩
        have r1 := hrow.below Hb.out hrow.lt
        obtain ⟨c0, c1, c2, c3, c4⟩ := r1.cells hx
        have hx2 := He.out x (List.mem_of_getElem? hx)
        have Hv := Lib.hid (fun w => ivalidD x w hx2.1 hx2.2)
        have Hx := Lib.hid hx
        have Hba := Lib.hid (Hb.out.alloc Hb.out.size (.cells #[.int .i64 x.n.a, .int .i64 x.n.b, .int .i64 x.n.c, .int .i64 x.n.d, .int .i64 x.e] 84))
        clear hx r1 hrow hx2
        cases ho : okD x with
        | false =>
          rw [ho] at Hv
          have hS : S = false := by rw [Hst.out, all_no Hx.out ho]; rfl
          subst hS
          go_wp2_with fail
          refine (Hv.out _).mono ?_
          rintro e w3 ⟨rfl, hb2⟩
          have Hb2 := Lib.hid (below_nx Hba.out hb2)
          clear hb2
          go_wp2_with fail
          go_ret
          exact ⟨rfl, Hb2.out⟩
        | true =>
          rw [ho] at Hv
          go_wp2_with fail
          refine (Hv.out _).mono ?_
          rintro e w3 ⟨rfl, hb2⟩
          have Hb2 := Lib.hid (below_nx Hba.out hb2)
          clear hb2
          go_wp2_with fail
          go_roundw
          case rel => exact ⟨j + 1, by omega, by go_num, (all_take Hx.out Hall.out).trans ho, Hb2⟩
          case measure => simp [intOf]; omega
      · obtain rfl : j = l.length := by omega
        have hall : l.all okD = true := by have := Hall.out; rwa [List.take_length] at this
        have hS : S = true := by rw [Hst.out, hall, Hp.out]; rfl
        subst hS
        go_wp2_with fail
        go_ret
        exact ⟨rfl, Hb.out⟩
set_option maxRecDepth 100000 in
set_option maxHeartbeats 1600000 in
theorem ibasis_1 (k : Nat) (w : World) (hk : k < 2) :
    Calls Tryz.prog 106 #[.int .i64 1, .int .i64 k] w fun e w' => ∃ v, e = .returned v ∧ DSl w' w.heap.size v ((List.replicate 2 Dw.zero).set k oneD) ∧ Below w.heap.size w w' := by
  obtain ⟨i0, hi, hz0, hz1, hz2⟩ := info_parts infoDw
  have Ho := Lib.hid (fun w => ione_any w)
  have Hq := Lib.hid (fun w => iisq_yes 1 w (by decide))
  go_enter Tryz.func106, Tryz.ntmps106
  go_wp2_with fail
  refine (Hq.out _).mono ?_
  rintro e w0 ⟨rfl, rfl⟩
  go_wp2_with (first | (at_make; refine wpList_make_full _ rfl _ _ 36 rfl w.heap.size 84 i0 (.agg #[.int .i64 0, .int .i64 0, .int .i64 0, .int .i64 0, .int .i64 0]) 5 Tryz.underlying36 hi hz0 hz1 .i64 .i64 2 2 2 rfl rfl rfl rfl (by rw [hz2]; omega) (by unfold maxLen; omega) (Nat.le_refl _) ?_))
  intro w1 hown hgrow
  have hb1 : Below w.heap.size w w1 := (Below.refl _ _).grown hgrow (Nat.le_refl _) (fun k hk => by cases hk)
  have hrow1 : DRow w1 w.heap.size (List.replicate 2 .zero) := by
    rcases hown.2 with ⟨h, _⟩ | ⟨g, cap, cur, hv, hb, hg, _, _, hs, ht⟩
    · cases h
    · obtain ⟨rfl, rfl⟩ : g = w.heap.size ∧ cap = 2 := by injection hv with hv _ hv2; injection hv with hv; injection hv with hv; exact ⟨hv.symm, hv2.symm⟩
      exact ⟨cur, hg, by rw [List.length_replicate, ht]; exact made_flat 2⟩
  have Hb1 := Lib.hid hb1
  have Hrow1 := Lib.hid hrow1
  clear hown hgrow hb1 hrow1
  go_wp2_with fail
  refine (Ho.out _).mono ?_
  rintro e w2 ⟨rfl, hb2⟩
  have hr2 := Hrow1.out.below hb2 Hrow1.out.lt
  obtain ⟨e0, e1, e2, e3, e4⟩ := hr2.cells (rep_at hk)
  have f1 := fun o => hr2.free o
  have Hr3 := Lib.hid (hr2.put k (by simpa using hk) oneD)
  have Hb2 := Lib.hid (Hb1.out.trans (hb2.mono Hb1.out.size))
  clear hr2 hb2 Hrow1 Ho
  go_wp2_with fail
  go_ret
  refine ⟨_, rfl, DSl.mk (by simp) (Nat.le_refl _) (Nat.le_refl _) Hr3.out, ?_⟩
  have := Hb2.out
  go_grown
set_option maxRecDepth 100000 in
set_option maxHeartbeats 1600000 in
theorem ibasis_2 (k : Nat) (w : World) (hk : k < 4) :
    Calls Tryz.prog 106 #[.int .i64 2, .int .i64 k] w fun e w' => ∃ v, e = .returned v ∧ DSl w' w.heap.size v ((List.replicate 4 Dw.zero).set k oneD) ∧ Below w.heap.size w w' := by
  obtain ⟨i0, hi, hz0, hz1, hz2⟩ := info_parts infoDw
  have Ho := Lib.hid (fun w => ione_any w)
  have Hq := Lib.hid (fun w => iisq_yes 2 w (by decide))
  go_enter Tryz.func106, Tryz.ntmps106
  go_wp2_with fail
  refine (Hq.out _).mono ?_
  rintro e w0 ⟨rfl, rfl⟩
  go_wp2_with (first | (at_make; refine wpList_make_full _ rfl _ _ 36 rfl w.heap.size 84 i0 (.agg #[.int .i64 0, .int .i64 0, .int .i64 0, .int .i64 0, .int .i64 0]) 5 Tryz.underlying36 hi hz0 hz1 .i64 .i64 4 4 4 rfl rfl rfl rfl (by rw [hz2]; omega) (by unfold maxLen; omega) (Nat.le_refl _) ?_))
  intro w1 hown hgrow
  have hb1 : Below w.heap.size w w1 := (Below.refl _ _).grown hgrow (Nat.le_refl _) (fun k hk => by cases hk)
  have hrow1 : DRow w1 w.heap.size (List.replicate 4 .zero) := by
    rcases hown.2 with ⟨h, _⟩ | ⟨g, cap, cur, hv, hb, hg, _, _, hs, ht⟩
    · cases h
    · obtain ⟨rfl, rfl⟩ : g = w.heap.size ∧ cap = 4 := by injection hv with hv _ hv2; injection hv with hv; injection hv with hv; exact ⟨hv.symm, hv2.symm⟩
      exact ⟨cur, hg, by rw [List.length_replicate, ht]; exact made_flat 4⟩
  have Hb1 := Lib.hid hb1
  have Hrow1 := Lib.hid hrow1
  clear hown hgrow hb1 hrow1
  go_wp2_with fail
  refine (Ho.out _).mono ?_
  rintro e w2 ⟨rfl, hb2⟩
  have hr2 := Hrow1.out.below hb2 Hrow1.out.lt
  obtain ⟨e0, e1, e2, e3, e4⟩ := hr2.cells (rep_at hk)
  have f1 := fun o => hr2.free o
  have Hr3 := Lib.hid (hr2.put k (by simpa using hk) oneD)
  have Hb2 := Lib.hid (Hb1.out.trans (hb2.mono Hb1.out.size))
  clear hr2 hb2 Hrow1 Ho
  go_wp2_with fail
  go_ret
  refine ⟨_, rfl, DSl.mk (by simp) (Nat.le_refl _) (Nat.le_refl _) Hr3.out, ?_⟩
  have := Hb2.out
  go_grown
set_option maxRecDepth 100000 in
set_option maxHeartbeats 1600000 in
theorem ibasis_3 (k : Nat) (w : World) (hk : k < 8) :
    Calls Tryz.prog 106 #[.int .i64 3, .int .i64 k] w fun e w' => ∃ v, e = .returned v ∧ DSl w' w.heap.size v ((List.replicate 8 Dw.zero).set k oneD) ∧ Below w.heap.size w w' := by
  obtain ⟨i0, hi, hz0, hz1, hz2⟩ := info_parts infoDw
  have Ho := Lib.hid (fun w => ione_any w)
  have Hq := Lib.hid (fun w => iisq_yes 3 w (by decide))
  go_enter Tryz.func106, Tryz.ntmps106
  go_wp2_with fail
  refine (Hq.out _).mono ?_
  rintro e w0 ⟨rfl, rfl⟩
  go_wp2_with (first | (at_make; refine wpList_make_full _ rfl _ _ 36 rfl w.heap.size 84 i0 (.agg #[.int .i64 0, .int .i64 0, .int .i64 0, .int .i64 0, .int .i64 0]) 5 Tryz.underlying36 hi hz0 hz1 .i64 .i64 8 8 8 rfl rfl rfl rfl (by rw [hz2]; omega) (by unfold maxLen; omega) (Nat.le_refl _) ?_))
  intro w1 hown hgrow
  have hb1 : Below w.heap.size w w1 := (Below.refl _ _).grown hgrow (Nat.le_refl _) (fun k hk => by cases hk)
  have hrow1 : DRow w1 w.heap.size (List.replicate 8 .zero) := by
    rcases hown.2 with ⟨h, _⟩ | ⟨g, cap, cur, hv, hb, hg, _, _, hs, ht⟩
    · cases h
    · obtain ⟨rfl, rfl⟩ : g = w.heap.size ∧ cap = 8 := by injection hv with hv _ hv2; injection hv with hv; injection hv with hv; exact ⟨hv.symm, hv2.symm⟩
      exact ⟨cur, hg, by rw [List.length_replicate, ht]; exact made_flat 8⟩
  have Hb1 := Lib.hid hb1
  have Hrow1 := Lib.hid hrow1
  clear hown hgrow hb1 hrow1
  go_wp2_with fail
  refine (Ho.out _).mono ?_
  rintro e w2 ⟨rfl, hb2⟩
  have hr2 := Hrow1.out.below hb2 Hrow1.out.lt
  obtain ⟨e0, e1, e2, e3, e4⟩ := hr2.cells (rep_at hk)
  have f1 := fun o => hr2.free o
  have Hr3 := Lib.hid (hr2.put k (by simpa using hk) oneD)
  have Hb2 := Lib.hid (Hb1.out.trans (hb2.mono Hb1.out.size))
  clear hr2 hb2 Hrow1 Ho
  go_wp2_with fail
  go_ret
  refine ⟨_, rfl, DSl.mk (by simp) (Nat.le_refl _) (Nat.le_refl _) Hr3.out, ?_⟩
  have := Hb2.out
  go_grown
set_option maxRecDepth 100000 in
set_option maxHeartbeats 1600000 in
theorem ibasis_4 (k : Nat) (w : World) (hk : k < 16) :
    Calls Tryz.prog 106 #[.int .i64 4, .int .i64 k] w fun e w' => ∃ v, e = .returned v ∧ DSl w' w.heap.size v ((List.replicate 16 Dw.zero).set k oneD) ∧ Below w.heap.size w w' := by
  obtain ⟨i0, hi, hz0, hz1, hz2⟩ := info_parts infoDw
  have Ho := Lib.hid (fun w => ione_any w)
  have Hq := Lib.hid (fun w => iisq_yes 4 w (by decide))
  go_enter Tryz.func106, Tryz.ntmps106
  go_wp2_with fail
  refine (Hq.out _).mono ?_
  rintro e w0 ⟨rfl, rfl⟩
  go_wp2_with (first | (at_make; refine wpList_make_full _ rfl _ _ 36 rfl w.heap.size 84 i0 (.agg #[.int .i64 0, .int .i64 0, .int .i64 0, .int .i64 0, .int .i64 0]) 5 Tryz.underlying36 hi hz0 hz1 .i64 .i64 16 16 16 rfl rfl rfl rfl (by rw [hz2]; omega) (by unfold maxLen; omega) (Nat.le_refl _) ?_))
  intro w1 hown hgrow
  have hb1 : Below w.heap.size w w1 := (Below.refl _ _).grown hgrow (Nat.le_refl _) (fun k hk => by cases hk)
  have hrow1 : DRow w1 w.heap.size (List.replicate 16 .zero) := by
    rcases hown.2 with ⟨h, _⟩ | ⟨g, cap, cur, hv, hb, hg, _, _, hs, ht⟩
    · cases h
    · obtain ⟨rfl, rfl⟩ : g = w.heap.size ∧ cap = 16 := by injection hv with hv _ hv2; injection hv with hv; injection hv with hv; exact ⟨hv.symm, hv2.symm⟩
      exact ⟨cur, hg, by rw [List.length_replicate, ht]; exact made_flat 16⟩
  have Hb1 := Lib.hid hb1
  have Hrow1 := Lib.hid hrow1
  clear hown hgrow hb1 hrow1
  go_wp2_with fail
  refine (Ho.out _).mono ?_
  rintro e w2 ⟨rfl, hb2⟩
  have hr2 := Hrow1.out.below hb2 Hrow1.out.lt
  obtain ⟨e0, e1, e2, e3, e4⟩ := hr2.cells (rep_at hk)
  have f1 := fun o => hr2.free o
  have Hr3 := Lib.hid (hr2.put k (by simpa using hk) oneD)
  have Hb2 := Lib.hid (Hb1.out.trans (hb2.mono Hb1.out.size))
  clear hr2 hb2 Hrow1 Ho
  go_wp2_with fail
  go_ret
  refine ⟨_, rfl, DSl.mk (by simp) (Nat.le_refl _) (Nat.le_refl _) Hr3.out, ?_⟩
  have := Hb2.out
  go_grown
set_option maxRecDepth 100000 in
set_option maxHeartbeats 1600000 in
theorem ibasis_no (n i : Int) (w : World) (_ : -9223372036854775808 ≤ n) (_ : n ≤ 9223372036854775807) (_ : -9223372036854775808 ≤ i) (_ : i ≤ 9223372036854775807) (h : ¬ (1 ≤ n ∧ n ≤ 4 ∧ 0 ≤ i ∧ i ≤ 2 ^ n.toNat - 1)) :
    Calls Tryz.prog 106 #[.int .i64 n, .int .i64 i] w fun e w' => ∃ v, e = .returned v ∧ DSl w' w.heap.size v [] ∧ Below w.heap.size w w' := by
  by_cases h1 : n < 1
  · clear h
    have Hq := Lib.hid (fun w => iisq_no n w (by omega) (by omega) (by omega))
    go_enter Tryz.func106, Tryz.ntmps106
    go_wp2_with fail
    refine (Hq.out _).mono ?_
    rintro e w0 ⟨rfl, rfl⟩
    go_wp2_with fail
    go_ret
    exact ⟨_, rfl, DSl.nil, by go_grown⟩
  · by_cases h4 : 4 < n
    · clear h
      have Hq := Lib.hid (fun w => iisq_no n w (by omega) (by omega) (by omega))
      go_enter Tryz.func106, Tryz.ntmps106
      go_wp2_with fail
      refine (Hq.out _).mono ?_
      rintro e w0 ⟨rfl, rfl⟩
      go_wp2_with fail
      go_ret
      exact ⟨_, rfl, DSl.nil, by go_grown⟩
    · by_cases h0 : i < 0
      · clear h
        have Hq := Lib.hid (fun w => iisq_yes n w (by omega))
        go_enter Tryz.func106, Tryz.ntmps106
        go_wp2_with fail
        refine (Hq.out _).mono ?_
        rintro e w0 ⟨rfl, rfl⟩
        go_wp2_with fail
        go_ret
        exact ⟨_, rfl, DSl.nil, by go_grown⟩
      · rcases (show (n = 1 ∧ 2 ≤ i) ∨ (n = 2 ∧ 4 ≤ i) ∨ (n = 3 ∧ 8 ≤ i) ∨ (n = 4 ∧ 16 ≤ i) by
          rcases (show n = 1 ∨ n = 2 ∨ n = 3 ∨ n = 4 by omega) with rfl | rfl | rfl | rfl
          · exact .inl ⟨rfl, Int.not_lt.1 fun k => h ⟨by omega, by omega, by omega, Int.le_of_lt_add_one k⟩⟩
          · exact .inr (.inl ⟨rfl, Int.not_lt.1 fun k => h ⟨by omega, by omega, by omega, Int.le_of_lt_add_one k⟩⟩)
          · exact .inr (.inr (.inl ⟨rfl, Int.not_lt.1 fun k => h ⟨by omega, by omega, by omega, Int.le_of_lt_add_one k⟩⟩))
          · exact .inr (.inr (.inr ⟨rfl, Int.not_lt.1 fun k => h ⟨by omega, by omega, by omega, Int.le_of_lt_add_one k⟩⟩))) with ⟨rfl, hi⟩ | ⟨rfl, hi⟩ | ⟨rfl, hi⟩ | ⟨rfl, hi⟩
        · clear h h1 h4
          have Hq := Lib.hid (fun w => iisq_yes 1 w (by decide))
          go_enter Tryz.func106, Tryz.ntmps106
          go_wp2_with fail
          refine (Hq.out _).mono ?_
          rintro e w0 ⟨rfl, rfl⟩
          go_wp2_with fail
          go_ret
          exact ⟨_, rfl, DSl.nil, by go_grown⟩
        · clear h h1 h4
          have Hq := Lib.hid (fun w => iisq_yes 2 w (by decide))
          go_enter Tryz.func106, Tryz.ntmps106
          go_wp2_with fail
          refine (Hq.out _).mono ?_
          rintro e w0 ⟨rfl, rfl⟩
          go_wp2_with fail
          go_ret
          exact ⟨_, rfl, DSl.nil, by go_grown⟩
        · clear h h1 h4
          have Hq := Lib.hid (fun w => iisq_yes 3 w (by decide))
          go_enter Tryz.func106, Tryz.ntmps106
          go_wp2_with fail
          refine (Hq.out _).mono ?_
          rintro e w0 ⟨rfl, rfl⟩
          go_wp2_with fail
          go_ret
          exact ⟨_, rfl, DSl.nil, by go_grown⟩
        · clear h h1 h4
          have Hq := Lib.hid (fun w => iisq_yes 4 w (by decide))
          go_enter Tryz.func106, Tryz.ntmps106
          go_wp2_with fail
          refine (Hq.out _).mono ?_
          rintro e w0 ⟨rfl, rfl⟩
          go_wp2_with fail
          go_ret
          exact ⟨_, rfl, DSl.nil, by go_grown⟩
theorem ibasis (n i : Int) (w : World) (n0 : -9223372036854775808 ≤ n) (n1 : n ≤ 9223372036854775807) (i0 : -9223372036854775808 ≤ i) (i1 : i ≤ 9223372036854775807) :
    Calls Tryz.prog 106 #[.int .i64 n, .int .i64 i] w fun e w' => ∃ v, e = .returned v ∧ DSl w' w.heap.size v (basisL n i) ∧ Below w.heap.size w w' := by
  by_cases h : 1 ≤ n ∧ n ≤ 4 ∧ 0 ≤ i ∧ i ≤ 2 ^ n.toNat - 1
  · rw [show basisL n i = (List.replicate (2 ^ n.toNat) .zero).set i.toNat oneD from if_pos h]
    obtain ⟨h0, h1, h2, h3⟩ := h
    obtain ⟨k, rfl⟩ : ∃ k : Nat, i = k := ⟨i.toNat, by omega⟩
    rcases (show n = 1 ∨ n = 2 ∨ n = 3 ∨ n = 4 by omega) with rfl | rfl | rfl | rfl
    · exact ibasis_1 k w (by have : (k : Int) ≤ 1 := h3; omega)
    · exact ibasis_2 k w (by have : (k : Int) ≤ 3 := h3; omega)
    · exact ibasis_3 k w (by have : (k : Int) ≤ 7 := h3; omega)
    · exact ibasis_4 k w (by have : (k : Int) ≤ 15 := h3; omega)
  · rw [show basisL n i = [] from if_neg h]
    exact ibasis_no n i w n0 n1 i0 i1 h
end Go.Proofs.YtmpafidkpangeaaGreat
