/- BaseB16: several of our texts in one: GtP MtL GtS GtKa. -/
import Derived.Test.YtkcpemkahkkcmaaBaseB20
import Derived.Test.YtkcpemkahkkcmaaBaseB18
import Derived.Test.YtkcpemkahkkcmaaGtB
import Derived.Test.YtkcpemkahkkcmaaBaseB17
namespace Go.Proofs.Ytkcpemkahkkcmaa
open Go.RowKit
/-- areDistinctQubits. -/
def dqOk (l : List Int) (n : Int) (j : Nat) : Bool := decide (0 ≤ l.getD j 0 ∧ l.getD j 0 < n) && !decide (l.getD j 0 ∈ l.take j)
def dq (l : List Int) (n : Int) : Bool := (List.range l.length).all (dqOk l n)
theorem wrapN {n : Int} (h : 1 ≤ n ∧ n ≤ 4) : IntKind.i64.wrap (n - 1) = n - 1 := by
  rcases (show n = 1 ∨ n = 2 ∨ n = 3 ∨ n = 4 by omega) with rfl | rfl | rfl | rfl <;> decide +kernel
theorem range3 : List.range 3 = [0, 1, 2] := by decide
theorem range2 : List.range 2 = [0, 1] := by decide
theorem range1 : List.range 1 = [0] := by decide
theorem upTo (x n : Int) : decide (0 ≤ x ∧ x ≤ n - 1) = decide (0 ≤ x ∧ x < n) := decide_eq_decide.2 (by omega)
theorem gtB_no {g : Gt} {n : Int} (h : ¬ (1 ≤ n ∧ n ≤ 4)) : gtB g n = false := by unfold gtB; rw [decide_eq_false h]; simp
theorem gtB_zero {g : Gt} {n : Int} (h : ar g.k = 0) : gtB g n = false := by unfold gtB; rw [h]; simp
theorem gtB_1 {k a b c n : Int} (h : ar k = 1) (hn : 1 ≤ n ∧ n ≤ 4) : gtB ⟨k, a, b, c⟩ n = (decide (b = 0) && decide (c = 0) && dq [a] n) := by
  unfold gtB gtOk dq dqOk gqs
  simp only [h, wrapN hn, range3, List.length_cons, List.length_nil, Nat.zero_add, range1, List.all_cons, List.all_nil, decide_eq_true hn, upTo]
  simp [Bool.and_comm, Bool.and_left_comm]
theorem gtB_2 {k a b c n : Int} (h : ar k = 2) (hn : 1 ≤ n ∧ n ≤ 4) : gtB ⟨k, a, b, c⟩ n = (decide (c = 0) && dq [a, b] n) := by
  unfold gtB gtOk dq dqOk gqs
  simp only [h, wrapN hn, range3, List.length_cons, List.length_nil, Nat.zero_add, Nat.reduceAdd, range2, List.all_cons, List.all_nil, decide_eq_true hn, upTo]
  simp [Bool.and_comm, Bool.and_left_comm]
theorem gtB_3 {k a b c n : Int} (h : ar k = 3) (hn : 1 ≤ n ∧ n ≤ 4) : gtB ⟨k, a, b, c⟩ n = dq [a, b, c] n := by
  unfold gtB gtOk dq dqOk gqs
  simp only [h, wrapN hn, range3, List.length_cons, List.length_nil, Nat.zero_add, Nat.reduceAdd, List.all_cons, List.all_nil, decide_eq_true hn, upTo]
  simp
theorem gtB_parts {g : Gt} {n : Int} (h : gtB g n = true) : (1 ≤ n ∧ n ≤ 4) ∧ (1 ≤ g.k ∧ g.k ≤ 12) ∧ (0 ≤ g.a ∧ g.a < n) ∧ (0 ≤ g.b ∧ g.b < n) ∧ 0 ≤ g.c ∧ g.c < n := by
  unfold gtB at h
  simp only [Bool.and_eq_true, decide_eq_true_eq] at h
  obtain ⟨hall, hpos, hn⟩ := h
  have hw : IntKind.i64.wrap (n - 1) = n - 1 := by rw [IntKind.wrap_i64]; omega
  rw [hw, List.all_eq_true] at hall
  have hk : 1 ≤ g.k ∧ g.k ≤ 12 := by
    unfold ar at hpos
    repeat' split at hpos
    all_goals omega
  have key : ∀ j, j < 3 → 0 ≤ [g.a, g.b, g.c].getD j 0 ∧ [g.a, g.b, g.c].getD j 0 < n := fun j hj => by
    have h := hall j (List.mem_range.2 hj)
    unfold gtOk at h
    split at h
    · have := of_decide_eq_true h; omega
    · rw [Bool.and_eq_true] at h
      have := of_decide_eq_true h.1
      omega
  exact ⟨hn, hk, key 0 (by omega), key 1 (by omega), key 2 (by omega)⟩
end Go.Proofs.Ytkcpemkahkkcmaa
namespace Go.Proofs.Ytkcpemkahkkcmaa
open Go.RowKit
/-- A matrix of the laws' fractions that came in. -/
def MtIn (w : World) (B : Nat) (a0 : Option Addr) (M : List (List Dw)) : Prop :=
  M.length ≤ maxLen ∧ (0 < M.length → ∃ b off, a0 = some ⟨b, off, none⟩ ∧ b < B ∧ ∀ j r, M[j]? = some r → ∃ a cap, w.cell? ⟨b, off + j, none⟩ = some (.slice a r.length cap) ∧ DsIn w B a r)
theorem MtIn.below {w w' : World} {B : Nat} {a0 : Option Addr} {M : List (List Dw)} (h : MtIn w B a0 M) (hb : Below B w w') : MtIn w' B a0 M :=
  ⟨h.1, fun h0 => by
    obtain ⟨b, off, e, hlt, hc⟩ := h.2 h0
    refine ⟨b, off, e, hlt, fun j r hr => ?_⟩
    obtain ⟨a, cap, c0, hd⟩ := hc j r hr
    exact ⟨a, cap, (hb.cell (by exact hlt)).trans c0, hd.below hb⟩⟩
theorem MtIn.mono {w : World} {B C : Nat} {a0 : Option Addr} {M : List (List Dw)} (h : MtIn w B a0 M) (hC : B ≤ C) : MtIn w C a0 M :=
  ⟨h.1, fun h0 => by
    obtain ⟨b, off, e, hlt, hc⟩ := h.2 h0
    refine ⟨b, off, e, by omega, fun j r hr => ?_⟩
    obtain ⟨a, cap, c0, hd⟩ := hc j r hr
    exact ⟨a, cap, c0, hd.mono hC⟩⟩
/-- The exponents of a matrix are machine integers. -/
def EbM (M : List (List Dw)) : Prop := ∀ r ∈ M, Eb r
theorem MtIn.eb {w : World} {B : Nat} {a0 : Option Addr} {M : List (List Dw)} (h : MtIn w B a0 M) : EbM M := by
  intro r hr
  obtain ⟨j, hj⟩ := List.getElem?_of_mem hr
  have h0 : 0 < M.length := by
    rcases Nat.eq_zero_or_pos M.length with k | k
    · rw [List.eq_nil_of_length_eq_zero k] at hj; simp at hj
    · exact k
  obtain ⟨b, off, e, hlt, hc⟩ := h.2 h0
  obtain ⟨a, cap, _, hd⟩ := hc j r hj
  exact hd.eb
/-- The amplitudes of a matrix. -/
def amps (M : List (List Dw)) : Nat := (M.map List.length).sum
theorem amps_step {M : List (List Dw)} {j : Nat} {r : List Dw} (hr : M[j]? = some r) : amps (M.take (j + 1)) = amps (M.take j) + r.length := by
  unfold amps
  rw [List.take_add_one, hr]
  simp
theorem amps_le {M : List (List Dw)} (j : Nat) : amps (M.take j) ≤ amps M := by
  unfold amps
  conv => rhs; rw [← List.take_append_drop j M, List.map_append, List.sum_append]
  omega
theorem amps_row {M : List (List Dw)} {j : Nat} {r : List Dw} (hr : M[j]? = some r) : r.length ≤ amps M := by
  have h1 := amps_step hr
  have h2 := amps_le (M := M) (j + 1)
  omega
set_option maxRecDepth 100000 in
set_option maxHeartbeats 1600000 in
theorem szMt (a0 : Option Addr) (cap B : Nat) (M : List (List Dw)) (l : Int) (w : World) (hin : MtIn w B a0 M) (l0 : 0 ≤ l) (l1 : l ≤ 1048576) :
    Calls Try.prog 42 #[.slice a0 M.length cap, .int .i64 l] w fun e w' => e = .returned (.int .i64 (if (M.length : Int) + amps M ≤ l then l - M.length - amps M else -1)) ∧ w = w' := by
  have hn := hin.1
  unfold maxLen at hn
  have Hin := Lib.hid hin
  clear hin
  obtain ⟨R, hR⟩ : ∃ R, R = (if (M.length : Int) + amps M ≤ l then l - M.length - amps M else -1) := ⟨_, rfl⟩
  rw [← hR]
  have HR := Lib.hid hR
  clear hR
  by_cases h : (M.length : Int) ≤ l
  · go_enter Try.func42, Try.ntmps42
    go_wp2_with fail
    go_loopg [1, 5] M.length (fun k left i wr => ∃ j : Nat, k = M.length - j ∧ j ≤ M.length ∧ i = .int .i64 j ∧ left = .int .i64 (l - M.length - amps (M.take j)) ∧ 0 ≤ l - M.length - amps (M.take j) ∧ w = wr)
    case atStart => exact ⟨0, rfl, Nat.zero_le _, rfl, by simp [amps], by simp [amps]; omega, rfl⟩
    case round =>
      obtain ⟨j, rfl, hj, rfl, rfl, hpos, rfl⟩ := hrel
      by_cases hlt : j < M.length
      · obtain ⟨b, off, rfl, hbB, hcells⟩ := Hin.out.2 (by omega)
        obtain ⟨r, hr⟩ : ∃ r, M[j]? = some r := ⟨M[j], List.getElem?_eq_getElem hlt⟩
        obtain ⟨a, cap2, c0, hd⟩ := hcells j r hr
        have hstep := amps_step hr
        have hle := amps_le (M := M) (j + 1)
        have hrl := hd.1
        have Hs := Lib.hid (fun w => szDs a r.length cap2 (l - M.length - amps (M.take j)) w hrl hpos (by omega))
        clear hcells hd
        by_cases hfit : (r.length : Int) ≤ l - M.length - amps (M.take j)
        · rw [if_pos hfit] at Hs
          go_wp2_with fail
          refine (Hs.out _).mono ?_
          rintro e w2 ⟨rfl, rfl⟩
          go_wp2_with fail
          go_roundg (M.length - (j + 1))
          case measure => omega
          case rel => exact ⟨j + 1, rfl, by omega, by go_num, by rw [hstep]; congr 1; omega, by rw [hstep]; omega, rfl⟩
        · rw [if_neg hfit] at Hs
          obtain rfl : R = -1 := HR.out.trans (if_neg (by omega))
          go_wp2_with fail
          refine (Hs.out _).mono ?_
          rintro e w2 ⟨rfl, rfl⟩
          go_wp2_with fail
          go_ret
          exact ⟨rfl, rfl⟩
      · obtain rfl : j = M.length := by omega
        rw [List.take_length] at hpos ⊢
        obtain rfl : R = l - M.length - amps M := HR.out.trans (if_pos (by omega))
        go_wp2_with fail
        go_ret
        exact ⟨rfl, rfl⟩
  · obtain rfl : R = -1 := HR.out.trans (if_neg (by omega))
    go_enter Try.func42, Try.ntmps42
    go_wp2_with fail
    go_ret
    exact ⟨rfl, rfl⟩
theorem infoDs : (Try.prog.info? 31).map (fun i => (i.zero, i.size, i.bytes)) = some (some (.slice none 0 0), 1, 24) := by kernel_rfl
theorem made_slices (n : Nat) : (madeCells #[.slice none 0 0] (n * 1)).toList = List.replicate n (.slice none 0 0) := by
  induction n with
  | zero => simp [madeCells]
  | succ n ih =>
    rw [List.replicate_succ', ← ih, show (n + 1) * 1 = n * 1 + 1 by omega]
    simp only [madeCells, Array.toList_map, Array.toList_range, List.range_succ, List.map_append, List.map_cons, List.map_nil]
    congr 1
    simp [Nat.mod_one]
theorem rows_nil {w : World} {B C n : Nat} : RwS w B C (List.replicate n (.slice none 0 0)) (List.replicate n []) := by
  refine ⟨by simp, fun _ => 0, fun j v r hv hr => ?_, fun i j r s hr _ ls _ _ => ?_⟩
  · rw [List.getElem?_replicate] at hv hr
    split at hv
    · split at hr
      · injection hv with hv; injection hr with hr; subst hv hr
        exact ⟨none, 0, rfl, Nat.le_refl _, fun h => absurd h (by simp)⟩
      · omega
    · cases hv
  · rw [List.getElem?_replicate] at hr
    split at hr
    · injection hr with hr; subst hr; simp at ls
    · cases hr
theorem halfM_at {M : List (List Dw)} {j : Nat} (h : j < M.length) : (M.take j ++ List.replicate (M.length - j) ([] : List Dw))[j]? = some [] := by
  rw [List.getElem?_append_right (by simp; omega), List.getElem?_replicate, if_pos (by simp; omega)]
theorem halfM_set {M : List (List Dw)} {j : Nat} {r : List Dw} (hr : M[j]? = some r) : (M.take j ++ List.replicate (M.length - j) []).set j r = M.take (j + 1) ++ List.replicate (M.length - (j + 1)) [] := by
  have h : j < M.length := by
    rcases Nat.lt_or_ge j M.length with h' | h'
    · exact h'
    · rw [List.getElem?_eq_none h'] at hr; cases hr
  rw [List.set_append_right _ _ (by simp; omega), List.take_add_one, hr]
  rw [show M.length - j = (M.length - (j + 1)) + 1 by omega, List.replicate_succ, show j - (M.take j).length = 0 by simp; omega]
  simp
attribute [local irreducible] World.cell?
set_option maxRecDepth 100000 in
set_option maxHeartbeats 1600000 in
theorem toMt (a0 : Option Addr) (cap : Nat) (M : List (List Dw)) (w : World) (hin : MtIn w w.heap.size a0 M) (hn1 : M.length ≤ 1048576) (hn2 : amps M ≤ 1048576) :
    Calls Try.prog 43 #[.slice a0 M.length cap] w fun e w' => ∃ v, e = .returned v ∧ DSM w' w.heap.size w'.heap.size v M ∧ Below w.heap.size w w' := by
  obtain ⟨i0, hi, hz0, hz1, hz2⟩ := info_parts infoDs
  have Hin := Lib.hid hin
  clear hin
  go_enter Try.func43, Try.ntmps43
  go_wp2_with (first | (at_make; refine wpList_make_full _ rfl _ _ 24 rfl w.heap.size 31 i0 (.slice none 0 0) 1 Try.underlying24 hi hz0 hz1 .i64 .i64 M.length M.length M.length rfl rfl rfl rfl (by rw [hz2]; omega) (by unfold maxLen; omega) (Nat.le_refl _) ?_))
  intro w1 hown hgrow
  have hb1 : Below w.heap.size w w1 := (Below.refl _ _).grown hgrow (Nat.le_refl _) (fun k hk => by cases hk)
  have hrow1 : MRow w1 w.heap.size w1.heap.size w.heap.size (List.replicate M.length []) := by
    rcases hown.2 with ⟨h, _⟩ | ⟨g, cap, cur, hv, hb, hg, _, _, hs, ht⟩
    · cases h
    · obtain ⟨rfl, rfl⟩ : g = w.heap.size ∧ cap = M.length := by injection hv with hv _ hv2; injection hv with hv; injection hv with hv; exact ⟨hv.symm, hv2.symm⟩
      refine ⟨cur, _, hg, ?_, rows_nil (n := M.length)⟩
      rw [List.length_replicate, ← made_slices M.length, Nat.mul_one]
      first | exact ht | simpa using ht
  have Hb1 := Lib.hid hb1
  have Hrow1 := Lib.hid hrow1
  clear hown hgrow hb1 hrow1
  go_wp2_with fail
  go_loopw [4] (fun i wr => ∃ j : Nat, j ≤ M.length ∧ i = .int .i64 j ∧ Hid (MRow wr w.heap.size wr.heap.size w.heap.size (M.take j ++ List.replicate (M.length - j) [])) ∧ Hid (Below w.heap.size w wr)) (fun i _ => M.length - (intOf i).toNat)
  case atStart => exact ⟨0, Nat.zero_le _, rfl, by simpa using Hrow1, Hb1⟩
  case round =>
    obtain ⟨j, hj, rfl, Hrow, Hb⟩ := hrel
    by_cases hlt : j < M.length
    · obtain ⟨b, off, rfl, hbB, hcells⟩ := (Hin.out.below Hb.out).2 (by omega)
      obtain ⟨r, hr⟩ : ∃ r, M[j]? = some r := ⟨M[j], List.getElem?_eq_getElem hlt⟩
      obtain ⟨a, cap2, c0, hd⟩ := hcells j r hr
      have Hd := Lib.hid (fun W (h : DsIn W w.heap.size a r) (hB : w.heap.size ≤ W.heap.size) => toDsB a cap2 w.heap.size r W h hB (by have := amps_row hr; omega))
      have Hdin := Lib.hid hd
      clear hcells hd
      go_wp2_with fail
      refine (Hd.out _ Hdin.out Hb.out.size).mono ?_
      rintro e w2 ⟨v, rfl, hds, hb2⟩
      have hr2 := Hrow.out.block (hb2.block _ Hrow.out.lt) fun k _ _ hk => hb2.block k hk
      have f1 := fun o => hr2.free o
      obtain ⟨a9, c9, e0, -⟩ := hr2.cell (halfM_at hlt)
      have hgl := Nat.lt_of_lt_of_le Hrow.out.lt hb2.size
      have hr3 := Hrow.out.put (j := j) (by simp; omega) hds.upto Hb.out.size hb2.size fun k hk => hb2.block k hk
      rw [halfM_set hr] at hr3
      have Hr3 := Lib.hid hr3
      have Hb2 := Lib.hid (Hb.out.trans (hb2.mono Hb.out.size))
      obtain ⟨a2, cap3, rfl, _⟩ := hds
      clear hr3 hr2 hb2 Hrow Hd Hdin
      go_wp2_with fail
      go_roundw
      case rel =>
        refine ⟨j + 1, by omega, by go_num, by simpa using Hr3, ?_⟩
        have := Hb2.out
        show Below _ _ _
        go_grown
      case measure => simp [intOf]; omega
    · obtain rfl : j = M.length := by omega
      go_wp2_with fail
      go_ret
      refine ⟨_, rfl, ⟨_, _, rfl, Nat.le_refl _, fun _ => ⟨_, rfl, Nat.le_refl _, Hrow.out.lt, ?_⟩⟩, Hb.out⟩
      simpa using Hrow.out
set_option maxRecDepth 100000 in
set_option maxHeartbeats 1600000 in
theorem eqMt (B C D E : Nat) (v u : Value) (M : List (List Dw)) (w : World) (hv : DSM w B C v M) (hu : DSM w D E u M) (hm : M.length ≤ 1048576) (hm2 : amps M ≤ 1048576) :
    Calls Try.prog 44 #[v, u] w fun e w' => e = .returned (.bool true) ∧ Below w.heap.size w w' := by
  obtain ⟨a, cap, rfl, hcap, hr⟩ := hv
  obtain ⟨a', cap', rfl, hcap', hr'⟩ := hu
  have Hr := Lib.hid hr
  have Hr' := Lib.hid hr'
  clear hr hr'
  go_enter Try.func44, Try.ntmps44
  go_wp2_with fail
  go_loopw [5] (fun i wr => ∃ j : Nat, j ≤ M.length ∧ i = .int .i64 j ∧ Hid (Below w.heap.size w wr)) (fun i _ => M.length - (intOf i).toNat)
  case atStart => exact ⟨0, Nat.zero_le _, rfl, Below.refl _ _⟩
  case round =>
    obtain ⟨j, hj, rfl, Hb⟩ := hrel
    by_cases hlt : j < M.length
    · obtain ⟨g, rfl, _, _, hrow⟩ := Hr.out (by omega)
      obtain ⟨g', rfl, _, _, hrow'⟩ := Hr'.out (by omega)
      obtain ⟨r, hr⟩ : ∃ r, M[j]? = some r := ⟨M[j], List.getElem?_eq_getElem hlt⟩
      have r1 := hrow.block (Hb.out.block _ hrow.lt) fun k _ _ hk => Hb.out.block k hk
      have r2 := hrow'.block (Hb.out.block _ hrow'.lt) fun k _ _ hk => Hb.out.block k hk
      obtain ⟨p, pc, c0, hd1⟩ := r1.cell hr
      obtain ⟨q, qc, c1, hd2⟩ := r2.cell hr
      have He := Lib.hid (fun W (h1 : Hid (DSl W B (.slice p r.length pc) r)) (h2 : Hid (DSl W D (.slice q r.length qc) r)) => eqDs B D (.slice p r.length pc) (.slice q r.length qc) r W h1.out h2.out (by have := amps_row hr; omega))
      have hS : SP2 w g g' j B D (.slice p r.length pc) (.slice q r.length qc) r r wr := ⟨c0, c1, r1.lt, r2.lt, Lib.hid hd1.dsl, Lib.hid hd2.dsl, Hb.out⟩
      clear hd1 hd2 r1 r2 hrow hrow'
      go_upto_region 6 with fail
      go_region_held3 (fun w' => w'.cell? ⟨g, j, none⟩ = some (.slice p r.length pc) ∧ w'.cell? ⟨g', j, none⟩ = some (.slice q r.length qc) ∧ g < w'.heap.size ∧ g' < w'.heap.size ∧ Hid (DSl w' B (.slice p r.length pc) r) ∧ Hid (DSl w' D (.slice q r.length qc) r) ∧ Below w.heap.size w w') (first | (show SP2 w g g' j B D (.slice p r.length pc) (.slice q r.length qc) r r _; (with_reducible exact hS.drew)) | (show SP2 w g g' j B D (.slice p r.length pc) (.slice q r.length qc) r r _; (with_reducible refine SP2.below ?_ hbR); first | assumption | exact ⟨by assumption, by assumption, by assumption, by assumption, by assumption, by assumption, by assumption⟩))
        (first | (go_at_call 56; (with_reducible refine (He.out _ hS.drew.one hS.drew.two).mono ?_); rintro e wR ⟨rfl, hbR⟩))
      have Hb2 := Lib.hid (below_up Hb.out.drew hbR Hb.out.size)
      go_wp2_with fail
      go_roundw
      case rel => exact ⟨j + 1, by omega, by go_num, Hb2⟩
      case measure => simp [intOf]; omega
    · obtain rfl : j = M.length := by omega
      go_wp2_with fail
      go_ret
      exact ⟨rfl, Hb.out⟩
end Go.Proofs.Ytkcpemkahkkcmaa
namespace Go.Proofs.Ytkcpemkahkkcmaa
open Go.RowKit
/-- InverseGate, of kinds and of gates. -/
def invK (k : Int) : Int := if k = 5 then 6 else if k = 6 then 5 else if k = 7 then 8 else if k = 8 then 7 else k
attribute [local irreducible] World.cell?
set_option maxRecDepth 100000 in
set_option maxHeartbeats 800000 in
theorem toG (x : Gt) (w : World) :
    Calls Try.prog 53 #[(.agg #[.int .i64 x.k, .int .i64 x.a, .int .i64 x.b, .int .i64 x.c])] w fun e w' => e = .returned (.agg #[.int .i64 x.k, .int .i64 x.a, .int .i64 x.b, .int .i64 x.c]) ∧ Below w.heap.size w w' := by
  go_enter Try.func53, Try.ntmps53
  go_wp2_with fail
  refine bodyPost_ret (v := (.agg #[.int .i64 x.k, .int .i64 x.a, .int .i64 x.b, .int .i64 x.c])) (by simp [results, Try.results53, go_sem]) rfl ⟨rfl, ?_⟩
  go_grown
set_option maxRecDepth 100000 in
set_option maxHeartbeats 800000 in
theorem eqG (x : Gt) (w : World) :
    Calls Try.prog 108 #[(.agg #[.int .i64 x.k, .int .i64 x.a, .int .i64 x.b, .int .i64 x.c]), (.agg #[.int .i64 x.k, .int .i64 x.a, .int .i64 x.b, .int .i64 x.c])] w fun e w' => e = .returned (.bool true) ∧ Below w.heap.size w w' := by
  go_enter Try.func108, Try.ntmps108
  go_wp2_with fail
  go_returns
  exact ⟨rfl, by go_grown⟩
end Go.Proofs.Ytkcpemkahkkcmaa
namespace Go.Proofs.Ytkcpemkahkkcmaa
open Go.RowKit
/-- What gateKindOf answers. -/
def kV (k : Int) : Value :=
  if 1 ≤ k ∧ k ≤ 8 then .iface 168 (.agg #[.int .i64 (invK k), .bool (decide (k ≤ 6))])
  else if 9 ≤ k ∧ k ≤ 11 then .iface 170 (.agg #[])
  else if k = 12 then .iface 171 (.agg #[]) else .nilIface
theorem mkK1 (x : Value) (w : World) : (Instr.makeInterface 168 x).run Try.prog w = .ok (.iface 168 x) w := run_makeInterface w 168 x (by kernel_rfl)
theorem mkK2 (x : Value) (w : World) : (Instr.makeInterface 170 x).run Try.prog w = .ok (.iface 170 x) w := run_makeInterface w 170 x (by kernel_rfl)
theorem mkK3 (x : Value) (w : World) : (Instr.makeInterface 171 x).run Try.prog w = .ok (.iface 171 x) w := run_makeInterface w 171 x (by kernel_rfl)
theorem as11 (v : Value) (w : World) : (Instr.typeAssert (.iface 168 v) 165 168 true).run Try.prog w = .ok (.tuple #[v, .bool true]) w := by kernel_rfl
theorem as21 (v : Value) (w : World) : (Instr.typeAssert (.iface 170 v) 165 168 true).run Try.prog w = .ok (.tuple #[.agg #[.int .i64 0, .bool false], .bool false]) w := by kernel_rfl
theorem as31 (v : Value) (w : World) : (Instr.typeAssert (.iface 171 v) 165 168 true).run Try.prog w = .ok (.tuple #[.agg #[.int .i64 0, .bool false], .bool false]) w := by kernel_rfl
theorem as01 (w : World) : (Instr.typeAssert .nilIface 165 168 true).run Try.prog w = .ok (.tuple #[.agg #[.int .i64 0, .bool false], .bool false]) w := by kernel_rfl
theorem as22 (v : Value) (w : World) : (Instr.typeAssert (.iface 170 v) 165 170 true).run Try.prog w = .ok (.tuple #[v, .bool true]) w := by kernel_rfl
theorem as32 (v : Value) (w : World) : (Instr.typeAssert (.iface 171 v) 165 170 true).run Try.prog w = .ok (.tuple #[.agg #[], .bool false]) w := by kernel_rfl
theorem as02 (w : World) : (Instr.typeAssert .nilIface 165 170 true).run Try.prog w = .ok (.tuple #[.agg #[], .bool false]) w := by kernel_rfl
theorem as33 (v : Value) (w : World) : (Instr.typeAssert (.iface 171 v) 165 171 true).run Try.prog w = .ok (.tuple #[v, .bool true]) w := by kernel_rfl
theorem as03 (w : World) : (Instr.typeAssert .nilIface 165 171 true).run Try.prog w = .ok (.tuple #[.agg #[], .bool false]) w := by kernel_rfl
attribute [local irreducible] World.cell?
set_option maxRecDepth 100000 in
set_option maxHeartbeats 3200000 in
theorem ikind (k : Int) (w : World) :
    Calls Try.prog 174 #[.int .i64 k] w fun e w' => e = .returned (kV k) ∧ w = w' := by
  have m1 := mkK1
  have m2 := mkK2
  have m3 := mkK3
  by_cases h : 1 ≤ k ∧ k ≤ 12
  · rcases (show k = 1 ∨ k = 2 ∨ k = 3 ∨ k = 4 ∨ k = 5 ∨ k = 6 ∨ k = 7 ∨ k = 8 ∨ k = 9 ∨ k = 10 ∨ k = 11 ∨ k = 12 by omega) with rfl | rfl | rfl | rfl | rfl | rfl | rfl | rfl | rfl | rfl | rfl | rfl
    all_goals clear h
    all_goals go_enter Try.func174, Try.ntmps174
    all_goals go_wp2_with fail
    all_goals go_ret
    all_goals exact ⟨rfl, rfl⟩
  · have e : kV k = .nilIface := by unfold kV; rw [if_neg (by omega), if_neg (by omega), if_neg (by omega)]
    rw [e]
    have e1 : (k == 1) = false := by simp; omega
    have e2 : (k == 2) = false := by simp; omega
    have e3 : (k == 3) = false := by simp; omega
    have e4 : (k == 4) = false := by simp; omega
    have e5 : (k == 5) = false := by simp; omega
    have e6 : (k == 6) = false := by simp; omega
    have e7 : (k == 7) = false := by simp; omega
    have e8 : (k == 8) = false := by simp; omega
    have e9 : (k == 9) = false := by simp; omega
    have e10 : (k == 10) = false := by simp; omega
    have e11 : (k == 11) = false := by simp; omega
    have e12 : (k == 12) = false := by simp; omega
    clear h e
    go_enter Try.func174, Try.ntmps174
    go_wp2_with fail
    go_ret
    exact ⟨rfl, rfl⟩
/-- The four forms of a kind. -/
theorem kV_one {k : Int} (h : 1 ≤ k ∧ k ≤ 8) : kV k = .iface 168 (.agg #[.int .i64 (invK k), .bool (decide (k ≤ 6))]) := if_pos h
theorem kV_two {k : Int} (h : 9 ≤ k ∧ k ≤ 11) : kV k = .iface 170 (.agg #[]) := by unfold kV; rw [if_neg (by omega), if_pos h]
theorem kV_no {k : Int} (h : ¬ (1 ≤ k ∧ k ≤ 12)) : kV k = .nilIface := by unfold kV; rw [if_neg (by omega), if_neg (by omega), if_neg (by omega)]
theorem kind_cases (k : Int) : (1 ≤ k ∧ k ≤ 8) ∨ (9 ≤ k ∧ k ≤ 11) ∨ k = 12 ∨ ¬ (1 ≤ k ∧ k ≤ 12) := by omega
set_option maxRecDepth 100000 in
set_option maxHeartbeats 1600000 in
theorem iar0 (k : Int) (w : World) :
    Calls Try.prog 145 #[.int .i64 k] w fun e w' => e = .returned (.int .i64 (ar k)) ∧ w = w' := by
  have Hk := Lib.hid (fun w => ikind k w)
  rcases kind_cases k with h | h | rfl | h
  · rw [kV_one h] at Hk
    rw [show ar k = 1 from if_pos h]
    have h1 := as11
    clear h
    go_enter Try.func145, Try.ntmps145
    go_wp2_with fail
    refine (Hk.out _).mono ?_
    rintro e w1 ⟨rfl, rfl⟩
    go_wp2_with fail
    go_ret
    exact ⟨rfl, rfl⟩
  · rw [kV_two h] at Hk
    rw [show ar k = 2 by unfold ar; rw [if_neg (by omega), if_pos h]]
    have h1 := as21
    have h2 := as22
    clear h
    go_enter Try.func145, Try.ntmps145
    go_wp2_with fail
    refine (Hk.out _).mono ?_
    rintro e w1 ⟨rfl, rfl⟩
    go_wp2_with fail
    go_ret
    exact ⟨rfl, rfl⟩
  · have Hk' : Hid (∀ w, Calls Try.prog 174 #[.int .i64 12] w fun e w' => e = .returned (.iface 171 (.agg #[])) ∧ w = w') := Hk
    rw [show ar 12 = 3 from rfl]
    clear Hk
    have h1 := as31
    have h2 := as32
    have h3 := as33
    go_enter Try.func145, Try.ntmps145
    go_wp2_with fail
    refine (Hk'.out _).mono ?_
    rintro e w1 ⟨rfl, rfl⟩
    go_wp2_with fail
    go_ret
    exact ⟨rfl, rfl⟩
  · rw [kV_no h] at Hk
    rw [show ar k = 0 by unfold ar; rw [if_neg (by omega), if_neg (by omega), if_neg (by omega)]]
    have h1 := as01
    have h2 := as02
    have h3 := as03
    clear h
    go_enter Try.func145, Try.ntmps145
    go_wp2_with fail
    refine (Hk.out _).mono ?_
    rintro e w1 ⟨rfl, rfl⟩
    go_wp2_with fail
    go_ret
    exact ⟨rfl, rfl⟩
end Go.Proofs.Ytkcpemkahkkcmaa
