/- XGxL: slices of slices of gates, as XMtL for fractions. -/
import Derived.Test.YtckfklpgnneodaaGxR
import Derived.Test.YtckfklpgnneodaaCiL
namespace Go.Proofs.Ytckfklpgnneodaa
open Go.RowKit
def MgIn (w : World) (B : Nat) (a0 : Option Addr) (M : List (List Gt)) : Prop :=
  M.length ≤ maxLen ∧ (0 < M.length → ∃ b off, a0 = some ⟨b, off, none⟩ ∧ b < B ∧ ∀ j r, M[j]? = some r → ∃ a cap, w.cell? ⟨b, off + j, none⟩ = some (.slice a r.length cap) ∧ GsIn w B a r)
theorem MgIn.below {w w' : World} {B : Nat} {a0 : Option Addr} {M : List (List Gt)} (h : MgIn w B a0 M) (hb : Below B w w') : MgIn w' B a0 M :=
  ⟨h.1, fun h0 => by
    obtain ⟨b, off, e, hlt, hc⟩ := h.2 h0
    refine ⟨b, off, e, hlt, fun j r hr => ?_⟩
    obtain ⟨a, cap, c0, hd⟩ := hc j r hr
    exact ⟨a, cap, (hb.cell (by exact hlt)).trans c0, hd.below hb⟩⟩
theorem MgIn.mono {w : World} {B C : Nat} {a0 : Option Addr} {M : List (List Gt)} (h : MgIn w B a0 M) (hC : B ≤ C) : MgIn w C a0 M :=
  ⟨h.1, fun h0 => by
    obtain ⟨b, off, e, hlt, hc⟩ := h.2 h0
    refine ⟨b, off, e, by omega, fun j r hr => ?_⟩
    obtain ⟨a, cap, c0, hd⟩ := hc j r hr
    exact ⟨a, cap, c0, hd.mono hC⟩⟩
def ampsG (M : List (List Gt)) : Nat := (M.map List.length).sum
theorem amps_stepG {M : List (List Gt)} {j : Nat} {r : List Gt} (hr : M[j]? = some r) : ampsG (M.take (j + 1)) = ampsG (M.take j) + r.length := by
  unfold ampsG
  rw [List.take_add_one, hr]
  simp
theorem amps_leG {M : List (List Gt)} (j : Nat) : ampsG (M.take j) ≤ ampsG M := by
  unfold ampsG
  conv => rhs; rw [← List.take_append_drop j M, List.map_append, List.sum_append]
  omega
theorem amps_rowG {M : List (List Gt)} {j : Nat} {r : List Gt} (hr : M[j]? = some r) : r.length ≤ ampsG M := by
  have h1 := amps_stepG hr
  have h2 := amps_leG (M := M) (j + 1)
  omega
set_option maxRecDepth 100000 in
set_option maxHeartbeats 1600000 in
theorem szMg (a0 : Option Addr) (cap B : Nat) (M : List (List Gt)) (l : Int) (w : World) (hin : MgIn w B a0 M) (l0 : 0 ≤ l) (l1 : l ≤ 1048576) :
    Calls Try.prog 30 #[.slice a0 M.length cap, .int .i64 l] w fun e w' => e = .returned (.int .i64 (if (M.length : Int) + ampsG M ≤ l then l - M.length - ampsG M else -1)) ∧ w = w' := by
  have hn := hin.1
  unfold maxLen at hn
  have Hin := Lib.hid hin
  clear hin
  obtain ⟨R, hR⟩ : ∃ R, R = (if (M.length : Int) + ampsG M ≤ l then l - M.length - ampsG M else -1) := ⟨_, rfl⟩
  rw [← hR]
  have HR := Lib.hid hR
  clear hR
  by_cases h : (M.length : Int) ≤ l
  · go_enter Try.func30, Try.ntmps30
    go_wp2_with fail
    go_loopg [1, 5] M.length (fun k left i wr => ∃ j : Nat, k = M.length - j ∧ j ≤ M.length ∧ i = .int .i64 j ∧ left = .int .i64 (l - M.length - ampsG (M.take j)) ∧ 0 ≤ l - M.length - ampsG (M.take j) ∧ w = wr)
    case atStart => exact ⟨0, rfl, Nat.zero_le _, rfl, by simp [ampsG], by simp [ampsG]; omega, rfl⟩
    case round =>
      obtain ⟨j, rfl, hj, rfl, rfl, hpos, rfl⟩ := hrel
      by_cases hlt : j < M.length
      · obtain ⟨b, off, rfl, hbB, hcells⟩ := Hin.out.2 (by omega)
        obtain ⟨r, hr⟩ : ∃ r, M[j]? = some r := ⟨M[j], List.getElem?_eq_getElem hlt⟩
        obtain ⟨a, cap2, c0, hd⟩ := hcells j r hr
        have hstep := amps_stepG hr
        have hle := amps_leG (M := M) (j + 1)
        have hrl := hd.1
        have Hs := Lib.hid (fun w => szGs a r.length cap2 (l - M.length - ampsG (M.take j)) w hrl hpos (by omega))
        clear hcells hd
        by_cases hfit : (r.length : Int) ≤ l - M.length - ampsG (M.take j)
        · rw [if_pos hfit] at Hs
          go_wp2_with fail
          refine (Hs.out _).mono ?_
          rintro e w2 ⟨rfl, rfl⟩
          go_wp2_with fail
          go_roundg (M.length - (j + 1))
          case measure => omega
          case rel => exact ⟨j + 1, rfl, by omega, by go_num, by rw [hstep]; congr 1; omega, by rw [hstep]; omega, rfl⟩
        · rw [if_neg hfit] at Hs
          obtain rfl : R = -1 := HR.out.trans (if_neg (by omega))
          go_wp2_with fail
          refine (Hs.out _).mono ?_
          rintro e w2 ⟨rfl, rfl⟩
          go_wp2_with fail
          go_ret
          exact ⟨rfl, rfl⟩
      · obtain rfl : j = M.length := by omega
        rw [List.take_length] at hpos ⊢
        obtain rfl : R = l - M.length - ampsG M := HR.out.trans (if_pos (by omega))
        go_wp2_with fail
        go_ret
        exact ⟨rfl, rfl⟩
  · obtain rfl : R = -1 := HR.out.trans (if_neg (by omega))
    go_enter Try.func30, Try.ntmps30
    go_wp2_with fail
    go_ret
    exact ⟨rfl, rfl⟩
theorem infoDsG : (Try.prog.info? 24).map (fun i => (i.zero, i.size, i.bytes)) = some (some (.slice none 0 0), 1, 24) := by kernel_rfl
theorem made_slicesG (n : Nat) : (madeCells #[.slice none 0 0] (n * 1)).toList = List.replicate n (.slice none 0 0) := by
  induction n with
  | zero => simp [madeCells]
  | succ n ih =>
    rw [List.replicate_succ', ← ih, show (n + 1) * 1 = n * 1 + 1 by omega]
    simp only [madeCells, Array.toList_map, Array.toList_range, List.range_succ, List.map_append, List.map_cons, List.map_nil]
    congr 1
    simp [Nat.mod_one]
theorem rows_nilG {w : World} {B C n : Nat} : RwG w B C (List.replicate n (.slice none 0 0)) (List.replicate n []) := by
  refine ⟨by simp, fun _ => 0, fun j v r hv hr => ?_, fun i j r s hr _ ls _ _ => ?_⟩
  · rw [List.getElem?_replicate] at hv hr
    split at hv
    · split at hr
      · injection hv with hv; injection hr with hr; subst hv hr
        exact ⟨none, 0, rfl, Nat.le_refl _, fun h => absurd h (by simp)⟩
      · omega
    · cases hv
  · rw [List.getElem?_replicate] at hr
    split at hr
    · injection hr with hr; subst hr; simp at ls
    · cases hr
theorem halfM_atG {M : List (List Gt)} {j : Nat} (h : j < M.length) : (M.take j ++ List.replicate (M.length - j) ([] : List Gt))[j]? = some [] := by
  rw [List.getElem?_append_right (by simp; omega), List.getElem?_replicate, if_pos (by simp; omega)]
theorem halfM_setG {M : List (List Gt)} {j : Nat} {r : List Gt} (hr : M[j]? = some r) : (M.take j ++ List.replicate (M.length - j) []).set j r = M.take (j + 1) ++ List.replicate (M.length - (j + 1)) [] := by
  have h : j < M.length := by
    rcases Nat.lt_or_ge j M.length with h' | h'
    · exact h'
    · rw [List.getElem?_eq_none h'] at hr; cases hr
  rw [List.set_append_right _ _ (by simp; omega), List.take_add_one, hr]
  rw [show M.length - j = (M.length - (j + 1)) + 1 by omega, List.replicate_succ, show j - (M.take j).length = 0 by simp; omega]
  simp
attribute [local irreducible] World.cell?
set_option maxRecDepth 100000 in
set_option maxHeartbeats 1600000 in
theorem toMg (a0 : Option Addr) (cap : Nat) (M : List (List Gt)) (w : World) (hin : MgIn w w.heap.size a0 M) (hn1 : M.length ≤ 1048576) (hn2 : ampsG M ≤ 1048576) :
    Calls Try.prog 32 #[.slice a0 M.length cap] w fun e w' => ∃ v, e = .returned v ∧ GSM w' w.heap.size w'.heap.size v M ∧ Below w.heap.size w w' := by
  obtain ⟨i0, hi, hz0, hz1, hz2⟩ := info_parts infoDsG
  have Hin := Lib.hid hin
  clear hin
  go_enter Try.func32, Try.ntmps32
  go_wp2_with (first | (at_make; refine wpList_make_full _ rfl _ _ 41 rfl w.heap.size 24 i0 (.slice none 0 0) 1 Try.underlying41 hi hz0 hz1 .i64 .i64 M.length M.length M.length rfl rfl rfl rfl (by rw [hz2]; omega) (by unfold maxLen; omega) (Nat.le_refl _) ?_))
  intro w1 hown hgrow
  have hb1 : Below w.heap.size w w1 := (Below.refl _ _).grown hgrow (Nat.le_refl _) (fun k hk => by cases hk)
  have hrow1 : MRowG w1 w.heap.size w1.heap.size w.heap.size (List.replicate M.length []) := by
    rcases hown.2 with ⟨h, _⟩ | ⟨g, cap, cur, hv, hb, hg, _, _, hs, ht⟩
    · cases h
    · obtain ⟨rfl, rfl⟩ : g = w.heap.size ∧ cap = M.length := by injection hv with hv _ hv2; injection hv with hv; injection hv with hv; exact ⟨hv.symm, hv2.symm⟩
      refine ⟨cur, _, hg, ?_, rows_nilG (n := M.length)⟩
      rw [List.length_replicate, ← made_slicesG M.length, Nat.mul_one]
      first | exact ht | simpa using ht
  have Hb1 := Lib.hid hb1
  have Hrow1 := Lib.hid hrow1
  clear hown hgrow hb1 hrow1
  go_wp2_with fail
  go_loopw [4] (fun i wr => ∃ j : Nat, j ≤ M.length ∧ i = .int .i64 j ∧ Hid (MRowG wr w.heap.size wr.heap.size w.heap.size (M.take j ++ List.replicate (M.length - j) [])) ∧ Hid (Below w.heap.size w wr)) (fun i _ => M.length - (intOf i).toNat)
  case atStart => exact ⟨0, Nat.zero_le _, rfl, by simpa using Hrow1, Hb1⟩
  case round =>
    obtain ⟨j, hj, rfl, Hrow, Hb⟩ := hrel
    by_cases hlt : j < M.length
    · obtain ⟨b, off, rfl, hbB, hcells⟩ := (Hin.out.below Hb.out).2 (by omega)
      obtain ⟨r, hr⟩ : ∃ r, M[j]? = some r := ⟨M[j], List.getElem?_eq_getElem hlt⟩
      obtain ⟨a, cap2, c0, hd⟩ := hcells j r hr
      have Hd := Lib.hid (fun W (h : GsIn W w.heap.size a r) (hB : w.heap.size ≤ W.heap.size) => toGs a cap2 w.heap.size r W h hB (by have := amps_rowG hr; omega))
      have Hdin := Lib.hid hd
      clear hcells hd
      go_wp2_with fail
      refine (Hd.out _ Hdin.out Hb.out.size).mono ?_
      rintro e w2 ⟨v, rfl, hds, hb2⟩
      have hr2 := Hrow.out.block (hb2.block _ Hrow.out.lt) fun k _ _ hk => hb2.block k hk
      have f1 := fun o => hr2.free o
      obtain ⟨a9, c9, e0, -⟩ := hr2.cell (halfM_atG hlt)
      have hgl := Nat.lt_of_lt_of_le Hrow.out.lt hb2.size
      have hr3 := Hrow.out.put (j := j) (by simp; omega) hds.upto Hb.out.size hb2.size fun k hk => hb2.block k hk
      rw [halfM_setG hr] at hr3
      have Hr3 := Lib.hid hr3
      have Hb2 := Lib.hid (Hb.out.trans (hb2.mono Hb.out.size))
      obtain ⟨a2, cap3, rfl, _⟩ := hds
      clear hr3 hr2 hb2 Hrow Hd Hdin
      go_wp2_with fail
      go_roundw
      case rel =>
        refine ⟨j + 1, by omega, by go_num, by simpa using Hr3, ?_⟩
        have := Hb2.out
        show Below _ _ _
        go_grown
      case measure => simp [intOf]; omega
    · obtain rfl : j = M.length := by omega
      go_wp2_with fail
      go_ret
      refine ⟨_, rfl, ⟨_, _, rfl, Nat.le_refl _, fun _ => ⟨_, rfl, Nat.le_refl _, Hrow.out.lt, ?_⟩⟩, Hb.out⟩
      simpa using Hrow.out
set_option maxRecDepth 100000 in
set_option maxHeartbeats 1600000 in
theorem eqMg (B C D E : Nat) (v u : Value) (M : List (List Gt)) (w : World) (hv : GSM w B C v M) (hu : GSM w D E u M) (hm : M.length ≤ 1048576) (hm2 : ampsG M ≤ 1048576) :
    Calls Try.prog 26 #[v, u] w fun e w' => e = .returned (.bool true) ∧ Below w.heap.size w w' := by
  obtain ⟨a, cap, rfl, hcap, hr⟩ := hv
  obtain ⟨a', cap', rfl, hcap', hr'⟩ := hu
  have Hr := Lib.hid hr
  have Hr' := Lib.hid hr'
  clear hr hr'
  go_enter Try.func26, Try.ntmps26
  go_wp2_with fail
  go_loopw [5] (fun i wr => ∃ j : Nat, j ≤ M.length ∧ i = .int .i64 j ∧ Hid (Below w.heap.size w wr)) (fun i _ => M.length - (intOf i).toNat)
  case atStart => exact ⟨0, Nat.zero_le _, rfl, Below.refl _ _⟩
  case round =>
    obtain ⟨j, hj, rfl, Hb⟩ := hrel
    by_cases hlt : j < M.length
    · obtain ⟨g, rfl, _, _, hrow⟩ := Hr.out (by omega)
      obtain ⟨g', rfl, _, _, hrow'⟩ := Hr'.out (by omega)
      obtain ⟨r, hr⟩ : ∃ r, M[j]? = some r := ⟨M[j], List.getElem?_eq_getElem hlt⟩
      have r1 := hrow.block (Hb.out.block _ hrow.lt) fun k _ _ hk => Hb.out.block k hk
      have r2 := hrow'.block (Hb.out.block _ hrow'.lt) fun k _ _ hk => Hb.out.block k hk
      obtain ⟨p, pc, c0, hd1⟩ := r1.cell hr
      obtain ⟨q, qc, c1, hd2⟩ := r2.cell hr
      have He := Lib.hid (fun W (h1 : Hid (gtE.Sl W B (.slice p r.length pc) r)) (h2 : Hid (gtE.Sl W D (.slice q r.length qc) r)) => eqGs B D (.slice p r.length pc) (.slice q r.length qc) r W h1.out h2.out (by have := amps_rowG hr; omega))
      have hS : SP2G w g g' j B D (.slice p r.length pc) (.slice q r.length qc) r r wr := ⟨c0, c1, r1.lt, r2.lt, Lib.hid hd1.sl, Lib.hid hd2.sl, Hb.out⟩
      clear hd1 hd2 r1 r2 hrow hrow'
      go_upto_region 6 with fail
      go_region_held3 (fun w' => w'.cell? ⟨g, j, none⟩ = some (.slice p r.length pc) ∧ w'.cell? ⟨g', j, none⟩ = some (.slice q r.length qc) ∧ g < w'.heap.size ∧ g' < w'.heap.size ∧ Hid (gtE.Sl w' B (.slice p r.length pc) r) ∧ Hid (gtE.Sl w' D (.slice q r.length qc) r) ∧ Below w.heap.size w w') (first | (show SP2G w g g' j B D (.slice p r.length pc) (.slice q r.length qc) r r _; (with_reducible exact hS.drew)) | (show SP2G w g g' j B D (.slice p r.length pc) (.slice q r.length qc) r r _; (with_reducible refine SP2G.below ?_ hbR); first | assumption | exact ⟨by assumption, by assumption, by assumption, by assumption, by assumption, by assumption, by assumption⟩))
        (first | (go_at_call 47; (with_reducible refine (He.out _ hS.drew.one hS.drew.two).mono ?_); rintro e wR ⟨rfl, hbR⟩))
      have Hb2 := Lib.hid (below_up Hb.out.drew hbR Hb.out.size)
      go_wp2_with fail
      go_roundw
      case rel => exact ⟨j + 1, by omega, by go_num, Hb2⟩
      case measure => simp [intOf]; omega
    · obtain rfl : j = M.length := by omega
      go_wp2_with fail
      go_ret
      exact ⟨rfl, Hb.out⟩
end Go.Proofs.Ytckfklpgnneodaa
