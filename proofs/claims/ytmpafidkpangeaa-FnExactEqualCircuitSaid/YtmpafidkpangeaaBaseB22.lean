/- BaseB22: several of our texts in one: MtD MtW MtA MtM MtU MtKc MtKb. -/
import Derived.Test.YtmpafidkpangeaaBaseB07
import Derived.Test.YtmpafidkpangeaaDwN
import Derived.Test.YtmpafidkpangeaaBaseB10
import Derived.Test.YtmpafidkpangeaaBaseB11
import Derived.Test.YtmpafidkpangeaaBaseB21
namespace Go.Proofs.Ytmpafidkpangeaa
open Go.RowKit
attribute [local irreducible] World.cell?
end Go.Proofs.Ytmpafidkpangeaa
namespace Go.Proofs.Ytmpafidkpangeaa
open Go.RowKit
attribute [local irreducible] World.cell?
end Go.Proofs.Ytmpafidkpangeaa
namespace Go.Proofs.Ytmpafidkpangeaa
open Go.RowKit
theorem appB_of {M : List (List Dw)} {v : List Dw} (hM : mtB M = true) (hv : stB v = true) (hl : M.length = v.length) : appB M v = M.all fun r => rowB r v := by
  unfold appB; rw [hM, hv, decide_eq_true hl]; rfl
theorem app_step {M : List (List Dw)} {v : List Dw} {j : Nat} {r : List Dw} (hr : M[j]? = some r) : flat ((M.map fun r => rowV r v).take j) ++ fl (rowV r v) = flat ((M.map fun r => rowV r v).take (j + 1)) := by
  rw [List.take_add_one, List.getElem?_map, hr, flat_app]
  simp [flat]
attribute [local irreducible] World.cell?
end Go.Proofs.Ytmpafidkpangeaa
namespace Go.Proofs.Ytmpafidkpangeaa
open Go.RowKit
theorem mulMB_of {A B : List (List Dw)} (hA : mtB A = true) (hB : mtB B = true) (hl : A.length = B.length) : mulMB A B = (List.range B.length).all fun k => appB A (col B k) := by
  unfold mulMB; rw [hA, hB, decide_eq_true hl]; rfl
theorem mulML_len (A B : List (List Dw)) : (mulML A B).length = B.length := by rw [mulML, List.length_map, List.length_range]
attribute [local irreducible] World.cell?
end Go.Proofs.Ytmpafidkpangeaa
namespace Go.Proofs.Ytmpafidkpangeaa
open Go.RowKit
theorem amps_rect {n : Nat} : ∀ {M : List (List Dw)}, (∀ r ∈ M, r.length = n) → amps M = M.length * n
  | [], _ => by simp [amps]
  | r :: M, h => by
    have h1 := amps_rect (M := M) fun s hs => h s (List.mem_cons_of_mem _ hs)
    have h2 := h r (List.mem_cons_self ..)
    unfold amps at *
    rw [List.map_cons, List.sum_cons, h1, h2, List.length_cons, Nat.succ_mul]
    omega
theorem small_amps {n k : Nat} {M : List (List Dw)} (h : ∀ r ∈ M, r.length = n) (hl : M.length = k) (hk : k ≤ 16) (hn : n ≤ 16) : amps M ≤ 256 := by
  rw [amps_rect h, hl]
  exact Nat.mul_le_mul hk hn
theorem mulM_amps (A B : List (List Dw)) : (mulM A B).length ≤ 16 ∧ amps (mulM A B) ≤ 256 := by
  cases h : mulMB A B with
  | false => rw [show mulM A B = [] from if_neg (by rw [h]; decide)]; exact ⟨by decide, by decide⟩
  | true =>
    have hB : mtB B = true := by
      unfold mulMB at h
      simp only [Bool.and_eq_true] at h
      exact h.1.1.2
    have h16 := mtB_len hB
    have hl : (mulM A B).length = B.length := by rw [show mulM A B = colsM (mulML A B) from if_pos h, colsM_len, mulML_len]
    refine ⟨by omega, small_amps (n := B.length) (fun r hr => ?_) hl h16 h16⟩
    rw [show mulM A B = colsM (mulML A B) from if_pos h] at hr
    obtain ⟨i, _, rfl⟩ := List.mem_map.1 hr
    rw [col_len, mulML_len]
theorem basisL_len (n i : Int) : (basisL n i).length ≤ 16 := by
  unfold basisL
  split
  · rename_i h
    rw [List.length_set, List.length_replicate]
    rcases (show n = 1 ∨ n = 2 ∨ n = 3 ∨ n = 4 by omega) with rfl | rfl | rfl | rfl <;> decide
  · exact Nat.zero_le _
theorem amps_le16 : ∀ {M : List (List Dw)}, (∀ r ∈ M, r.length ≤ 16) → amps M ≤ M.length * 16
  | [], _ => by simp [amps]
  | r :: M, h => by
    have h1 := amps_le16 (M := M) fun s hs => h s (List.mem_cons_of_mem _ hs)
    have h2 := h r (List.mem_cons_self ..)
    unfold amps at *
    rw [List.map_cons, List.sum_cons, List.length_cons, Nat.succ_mul]
    omega
theorem idM_amps (n : Int) : (idM n).length ≤ 16 ∧ amps (idM n) ≤ 256 := by
  by_cases h : 1 ≤ n ∧ n ≤ 4
  · have hl := idM_len h
    have h16 : 2 ^ n.toNat ≤ 16 := by rcases (show n = 1 ∨ n = 2 ∨ n = 3 ∨ n = 4 by omega) with rfl | rfl | rfl | rfl <;> decide
    have h2 := amps_le16 (M := idM n) fun r hr => by
      rw [idM_yes h] at hr
      obtain ⟨i, _, rfl⟩ := List.mem_map.1 hr
      exact basisL_len n _
    exact ⟨by omega, by omega⟩
  · rw [idM_no h]; exact ⟨by decide, by decide⟩
attribute [local irreducible] World.cell?
end Go.Proofs.Ytmpafidkpangeaa
namespace Go.Proofs.Ytmpafidkpangeaa
open Go.RowKit
theorem idM_get {n : Int} (h : 1 ≤ n ∧ n ≤ 4) {j : Nat} (hj : j < 2 ^ n.toNat) : (idM n)[j]? = some (basisL n (j : Int)) := by
  rw [idM_yes h, List.getElem?_map, List.getElem?_range hj]; rfl
attribute [local irreducible] World.cell?
set_option maxRecDepth 100000 in
set_option maxHeartbeats 3200000 in
theorem iident1 (w : World) :
    Calls Try.prog 89 #[.int .i64 1] w fun e w' => ∃ u, e = .returned u ∧ DSM w' w.heap.size w'.heap.size u (idM 1) ∧ Below w.heap.size w w' := by
  obtain ⟨i0, hi, hz0, hz1, hz2⟩ := info_parts infoDs
  have Hq := Lib.hid (fun w => iisq_yes 1 w (by decide))
  have Hb0 := Lib.hid (fun (j : Nat) (hj : j < 2) w => ibasis 1 j w (by decide) (by decide) (by omega) (by omega))
  have HN := Lib.hid (fun (j : Nat) (hj : j < 2) => idM_get (n := 1) (by decide) (j := j) hj)
  have HNl := Lib.hid (show (idM 1).length = 2 from idM_len (by decide))
  generalize idM 1 = I at *
  go_enter Try.func89, Try.ntmps89
  go_wp2_with fail
  refine (Hq.out _).mono ?_
  rintro e w0 ⟨rfl, rfl⟩
  go_wp2_with (first | (at_make; refine wpList_make_full _ rfl _ _ 33 rfl w.heap.size 82 i0 (.slice none 0 0) 1 Try.underlying33 hi hz0 hz1 .i64 .i64 2 2 2 rfl rfl rfl rfl (by rw [hz2]; omega) (by unfold maxLen; omega) (Nat.le_refl _) ?_))
  intro w1 hown hgrow
  have hb1 : Below w.heap.size w w1 := (Below.refl _ _).grown hgrow (Nat.le_refl _) (fun k hk => by cases hk)
  have hrow1 : MRow w1 w.heap.size w1.heap.size w.heap.size (List.replicate 2 []) := by
    rcases hown.2 with ⟨h, _⟩ | ⟨g, cap, cur, hv, hb, hg, _, _, hs, ht⟩
    · cases h
    · obtain ⟨rfl, rfl⟩ : g = w.heap.size ∧ cap = 2 := by injection hv with hv _ hv2; injection hv with hv; injection hv with hv; exact ⟨hv.symm, hv2.symm⟩
      refine ⟨cur, _, hg, ?_, rows_nil (n := 2)⟩
      rw [List.length_replicate, ← made_slices 2]
      first | exact ht | simpa using ht
  rw [← HNl.out] at hrow1
  have Hb1 := Lib.hid hb1
  have Hrow1 := Lib.hid hrow1
  clear hown hgrow hb1 hrow1
  go_wp2_with fail
  go_loopg [13] 2 (fun n i wr => ∃ j : Nat, n = 2 - j ∧ j ≤ 2 ∧ i = .int .i64 j ∧ Hid (MRow wr w.heap.size wr.heap.size w.heap.size (I.take j ++ List.replicate (I.length - j) [])) ∧ Hid (Below w.heap.size w wr))
  case atStart => exact ⟨0, rfl, Nat.zero_le _, rfl, by simpa using Hrow1, Hb1⟩
  case round =>
    obtain ⟨j, rfl, hj, rfl, Hrow, Hb⟩ := hrel
    have hs := Hb.out.size
    by_cases hlt : j < 2
    · have hlt' : (j : Int) < 2 := by omega
      have Hst := Lib.hid (halfM_set (HN.out j hlt))
      have hjN : j < I.length := by have := HNl.out; omega
      have Hj := Lib.hid (fun w => Hb0.out j hlt w)
      generalize basisL 1 (j : Int) = r at *
      go_wp2_with fail
      refine (Hj.out _).mono ?_
      rintro e w2 ⟨v, rfl, hds, hb2⟩
      have hr2 := Hrow.out.block (hb2.block _ Hrow.out.lt) fun k _ _ hk => hb2.block k hk
      have f1 := fun o => hr2.free o
      obtain ⟨a9, c9, e0, -⟩ := hr2.cell (halfM_at hjN)
      have hgl := Nat.lt_of_lt_of_le Hrow.out.lt hb2.size
      have hr3 := Hrow.out.put (j := j) (by simp; omega) hds.upto hs hb2.size fun k hk => hb2.block k hk
      rw [Hst.out] at hr3
      have Hr3 := Lib.hid hr3
      have Hb2 := Lib.hid (Hb.out.trans (hb2.mono hs))
      obtain ⟨a2, cap3, rfl, _⟩ := hds
      clear hr3 hr2 hb2 Hrow Hj Hb0 HN
      go_wp2_with fail
      go_roundg (2 - (j + 1))
      case measure => omega
      case rel =>
        refine ⟨j + 1, rfl, by omega, by go_num, by simpa using Hr3, ?_⟩
        have := Hb2.out
        show Below _ _ _
        go_grown
    · obtain rfl : j = 2 := by omega
      have hrow := Hrow.out
      have HD := Lib.hid (show DSM wr w.heap.size wr.heap.size (.slice (some ⟨w.heap.size, 0, none⟩) 2 2) I from ⟨_, _, by rw [HNl.out], by rw [HNl.out]; exact Nat.le_refl _, fun _ => ⟨_, rfl, Nat.le_refl _, hrow.lt, by
        have h16 := hrow
        rw [← HNl.out, List.take_length, Nat.sub_self] at h16
        simpa using h16⟩⟩)
      clear hrow Hrow
      go_wp2_with fail
      go_ret
      exact ⟨_, rfl, HD.out, Hb.out⟩
set_option maxRecDepth 100000 in
set_option maxHeartbeats 3200000 in
theorem iident2 (w : World) :
    Calls Try.prog 89 #[.int .i64 2] w fun e w' => ∃ u, e = .returned u ∧ DSM w' w.heap.size w'.heap.size u (idM 2) ∧ Below w.heap.size w w' := by
  obtain ⟨i0, hi, hz0, hz1, hz2⟩ := info_parts infoDs
  have Hq := Lib.hid (fun w => iisq_yes 2 w (by decide))
  have Hb0 := Lib.hid (fun (j : Nat) (hj : j < 4) w => ibasis 2 j w (by decide) (by decide) (by omega) (by omega))
  have HN := Lib.hid (fun (j : Nat) (hj : j < 4) => idM_get (n := 2) (by decide) (j := j) hj)
  have HNl := Lib.hid (show (idM 2).length = 4 from idM_len (by decide))
  generalize idM 2 = I at *
  go_enter Try.func89, Try.ntmps89
  go_wp2_with fail
  refine (Hq.out _).mono ?_
  rintro e w0 ⟨rfl, rfl⟩
  go_wp2_with (first | (at_make; refine wpList_make_full _ rfl _ _ 33 rfl w.heap.size 82 i0 (.slice none 0 0) 1 Try.underlying33 hi hz0 hz1 .i64 .i64 4 4 4 rfl rfl rfl rfl (by rw [hz2]; omega) (by unfold maxLen; omega) (Nat.le_refl _) ?_))
  intro w1 hown hgrow
  have hb1 : Below w.heap.size w w1 := (Below.refl _ _).grown hgrow (Nat.le_refl _) (fun k hk => by cases hk)
  have hrow1 : MRow w1 w.heap.size w1.heap.size w.heap.size (List.replicate 4 []) := by
    rcases hown.2 with ⟨h, _⟩ | ⟨g, cap, cur, hv, hb, hg, _, _, hs, ht⟩
    · cases h
    · obtain ⟨rfl, rfl⟩ : g = w.heap.size ∧ cap = 4 := by injection hv with hv _ hv2; injection hv with hv; injection hv with hv; exact ⟨hv.symm, hv2.symm⟩
      refine ⟨cur, _, hg, ?_, rows_nil (n := 4)⟩
      rw [List.length_replicate, ← made_slices 4]
      first | exact ht | simpa using ht
  rw [← HNl.out] at hrow1
  have Hb1 := Lib.hid hb1
  have Hrow1 := Lib.hid hrow1
  clear hown hgrow hb1 hrow1
  go_wp2_with fail
  go_loopg [13] 4 (fun n i wr => ∃ j : Nat, n = 4 - j ∧ j ≤ 4 ∧ i = .int .i64 j ∧ Hid (MRow wr w.heap.size wr.heap.size w.heap.size (I.take j ++ List.replicate (I.length - j) [])) ∧ Hid (Below w.heap.size w wr))
  case atStart => exact ⟨0, rfl, Nat.zero_le _, rfl, by simpa using Hrow1, Hb1⟩
  case round =>
    obtain ⟨j, rfl, hj, rfl, Hrow, Hb⟩ := hrel
    have hs := Hb.out.size
    by_cases hlt : j < 4
    · have hlt' : (j : Int) < 4 := by omega
      have Hst := Lib.hid (halfM_set (HN.out j hlt))
      have hjN : j < I.length := by have := HNl.out; omega
      have Hj := Lib.hid (fun w => Hb0.out j hlt w)
      generalize basisL 2 (j : Int) = r at *
      go_wp2_with fail
      refine (Hj.out _).mono ?_
      rintro e w2 ⟨v, rfl, hds, hb2⟩
      have hr2 := Hrow.out.block (hb2.block _ Hrow.out.lt) fun k _ _ hk => hb2.block k hk
      have f1 := fun o => hr2.free o
      obtain ⟨a9, c9, e0, -⟩ := hr2.cell (halfM_at hjN)
      have hgl := Nat.lt_of_lt_of_le Hrow.out.lt hb2.size
      have hr3 := Hrow.out.put (j := j) (by simp; omega) hds.upto hs hb2.size fun k hk => hb2.block k hk
      rw [Hst.out] at hr3
      have Hr3 := Lib.hid hr3
      have Hb2 := Lib.hid (Hb.out.trans (hb2.mono hs))
      obtain ⟨a2, cap3, rfl, _⟩ := hds
      clear hr3 hr2 hb2 Hrow Hj Hb0 HN
      go_wp2_with fail
      go_roundg (4 - (j + 1))
      case measure => omega
      case rel =>
        refine ⟨j + 1, rfl, by omega, by go_num, by simpa using Hr3, ?_⟩
        have := Hb2.out
        show Below _ _ _
        go_grown
    · obtain rfl : j = 4 := by omega
      have hrow := Hrow.out
      have HD := Lib.hid (show DSM wr w.heap.size wr.heap.size (.slice (some ⟨w.heap.size, 0, none⟩) 4 4) I from ⟨_, _, by rw [HNl.out], by rw [HNl.out]; exact Nat.le_refl _, fun _ => ⟨_, rfl, Nat.le_refl _, hrow.lt, by
        have h16 := hrow
        rw [← HNl.out, List.take_length, Nat.sub_self] at h16
        simpa using h16⟩⟩)
      clear hrow Hrow
      go_wp2_with fail
      go_ret
      exact ⟨_, rfl, HD.out, Hb.out⟩
set_option maxRecDepth 100000 in
set_option maxHeartbeats 3200000 in
theorem iident3 (w : World) :
    Calls Try.prog 89 #[.int .i64 3] w fun e w' => ∃ u, e = .returned u ∧ DSM w' w.heap.size w'.heap.size u (idM 3) ∧ Below w.heap.size w w' := by
  obtain ⟨i0, hi, hz0, hz1, hz2⟩ := info_parts infoDs
  have Hq := Lib.hid (fun w => iisq_yes 3 w (by decide))
  have Hb0 := Lib.hid (fun (j : Nat) (hj : j < 8) w => ibasis 3 j w (by decide) (by decide) (by omega) (by omega))
  have HN := Lib.hid (fun (j : Nat) (hj : j < 8) => idM_get (n := 3) (by decide) (j := j) hj)
  have HNl := Lib.hid (show (idM 3).length = 8 from idM_len (by decide))
  generalize idM 3 = I at *
  go_enter Try.func89, Try.ntmps89
  go_wp2_with fail
  refine (Hq.out _).mono ?_
  rintro e w0 ⟨rfl, rfl⟩
  go_wp2_with (first | (at_make; refine wpList_make_full _ rfl _ _ 33 rfl w.heap.size 82 i0 (.slice none 0 0) 1 Try.underlying33 hi hz0 hz1 .i64 .i64 8 8 8 rfl rfl rfl rfl (by rw [hz2]; omega) (by unfold maxLen; omega) (Nat.le_refl _) ?_))
  intro w1 hown hgrow
  have hb1 : Below w.heap.size w w1 := (Below.refl _ _).grown hgrow (Nat.le_refl _) (fun k hk => by cases hk)
  have hrow1 : MRow w1 w.heap.size w1.heap.size w.heap.size (List.replicate 8 []) := by
    rcases hown.2 with ⟨h, _⟩ | ⟨g, cap, cur, hv, hb, hg, _, _, hs, ht⟩
    · cases h
    · obtain ⟨rfl, rfl⟩ : g = w.heap.size ∧ cap = 8 := by injection hv with hv _ hv2; injection hv with hv; injection hv with hv; exact ⟨hv.symm, hv2.symm⟩
      refine ⟨cur, _, hg, ?_, rows_nil (n := 8)⟩
      rw [List.length_replicate, ← made_slices 8]
      first | exact ht | simpa using ht
  rw [← HNl.out] at hrow1
  have Hb1 := Lib.hid hb1
  have Hrow1 := Lib.hid hrow1
  clear hown hgrow hb1 hrow1
  go_wp2_with fail
  go_loopg [13] 8 (fun n i wr => ∃ j : Nat, n = 8 - j ∧ j ≤ 8 ∧ i = .int .i64 j ∧ Hid (MRow wr w.heap.size wr.heap.size w.heap.size (I.take j ++ List.replicate (I.length - j) [])) ∧ Hid (Below w.heap.size w wr))
  case atStart => exact ⟨0, rfl, Nat.zero_le _, rfl, by simpa using Hrow1, Hb1⟩
  case round =>
    obtain ⟨j, rfl, hj, rfl, Hrow, Hb⟩ := hrel
    have hs := Hb.out.size
    by_cases hlt : j < 8
    · have hlt' : (j : Int) < 8 := by omega
      have Hst := Lib.hid (halfM_set (HN.out j hlt))
      have hjN : j < I.length := by have := HNl.out; omega
      have Hj := Lib.hid (fun w => Hb0.out j hlt w)
      generalize basisL 3 (j : Int) = r at *
      go_wp2_with fail
      refine (Hj.out _).mono ?_
      rintro e w2 ⟨v, rfl, hds, hb2⟩
      have hr2 := Hrow.out.block (hb2.block _ Hrow.out.lt) fun k _ _ hk => hb2.block k hk
      have f1 := fun o => hr2.free o
      obtain ⟨a9, c9, e0, -⟩ := hr2.cell (halfM_at hjN)
      have hgl := Nat.lt_of_lt_of_le Hrow.out.lt hb2.size
      have hr3 := Hrow.out.put (j := j) (by simp; omega) hds.upto hs hb2.size fun k hk => hb2.block k hk
      rw [Hst.out] at hr3
      have Hr3 := Lib.hid hr3
      have Hb2 := Lib.hid (Hb.out.trans (hb2.mono hs))
      obtain ⟨a2, cap3, rfl, _⟩ := hds
      clear hr3 hr2 hb2 Hrow Hj Hb0 HN
      go_wp2_with fail
      go_roundg (8 - (j + 1))
      case measure => omega
      case rel =>
        refine ⟨j + 1, rfl, by omega, by go_num, by simpa using Hr3, ?_⟩
        have := Hb2.out
        show Below _ _ _
        go_grown
    · obtain rfl : j = 8 := by omega
      have hrow := Hrow.out
      have HD := Lib.hid (show DSM wr w.heap.size wr.heap.size (.slice (some ⟨w.heap.size, 0, none⟩) 8 8) I from ⟨_, _, by rw [HNl.out], by rw [HNl.out]; exact Nat.le_refl _, fun _ => ⟨_, rfl, Nat.le_refl _, hrow.lt, by
        have h16 := hrow
        rw [← HNl.out, List.take_length, Nat.sub_self] at h16
        simpa using h16⟩⟩)
      clear hrow Hrow
      go_wp2_with fail
      go_ret
      exact ⟨_, rfl, HD.out, Hb.out⟩
set_option maxRecDepth 100000 in
set_option maxHeartbeats 3200000 in
theorem iident4 (w : World) :
    Calls Try.prog 89 #[.int .i64 4] w fun e w' => ∃ u, e = .returned u ∧ DSM w' w.heap.size w'.heap.size u (idM 4) ∧ Below w.heap.size w w' := by
  obtain ⟨i0, hi, hz0, hz1, hz2⟩ := info_parts infoDs
  have Hq := Lib.hid (fun w => iisq_yes 4 w (by decide))
  have Hb0 := Lib.hid (fun (j : Nat) (hj : j < 16) w => ibasis 4 j w (by decide) (by decide) (by omega) (by omega))
  have HN := Lib.hid (fun (j : Nat) (hj : j < 16) => idM_get (n := 4) (by decide) (j := j) hj)
  have HNl := Lib.hid (show (idM 4).length = 16 from idM_len (by decide))
  generalize idM 4 = I at *
  go_enter Try.func89, Try.ntmps89
  go_wp2_with fail
  refine (Hq.out _).mono ?_
  rintro e w0 ⟨rfl, rfl⟩
  go_wp2_with (first | (at_make; refine wpList_make_full _ rfl _ _ 33 rfl w.heap.size 82 i0 (.slice none 0 0) 1 Try.underlying33 hi hz0 hz1 .i64 .i64 16 16 16 rfl rfl rfl rfl (by rw [hz2]; omega) (by unfold maxLen; omega) (Nat.le_refl _) ?_))
  intro w1 hown hgrow
  have hb1 : Below w.heap.size w w1 := (Below.refl _ _).grown hgrow (Nat.le_refl _) (fun k hk => by cases hk)
  have hrow1 : MRow w1 w.heap.size w1.heap.size w.heap.size (List.replicate 16 []) := by
    rcases hown.2 with ⟨h, _⟩ | ⟨g, cap, cur, hv, hb, hg, _, _, hs, ht⟩
    · cases h
    · obtain ⟨rfl, rfl⟩ : g = w.heap.size ∧ cap = 16 := by injection hv with hv _ hv2; injection hv with hv; injection hv with hv; exact ⟨hv.symm, hv2.symm⟩
      refine ⟨cur, _, hg, ?_, rows_nil (n := 16)⟩
      rw [List.length_replicate, ← made_slices 16]
      first | exact ht | simpa using ht
  rw [← HNl.out] at hrow1
  have Hb1 := Lib.hid hb1
  have Hrow1 := Lib.hid hrow1
  clear hown hgrow hb1 hrow1
  go_wp2_with fail
  go_loopg [13] 16 (fun n i wr => ∃ j : Nat, n = 16 - j ∧ j ≤ 16 ∧ i = .int .i64 j ∧ Hid (MRow wr w.heap.size wr.heap.size w.heap.size (I.take j ++ List.replicate (I.length - j) [])) ∧ Hid (Below w.heap.size w wr))
  case atStart => exact ⟨0, rfl, Nat.zero_le _, rfl, by simpa using Hrow1, Hb1⟩
  case round =>
    obtain ⟨j, rfl, hj, rfl, Hrow, Hb⟩ := hrel
    have hs := Hb.out.size
    by_cases hlt : j < 16
    · have hlt' : (j : Int) < 16 := by omega
      have Hst := Lib.hid (halfM_set (HN.out j hlt))
      have hjN : j < I.length := by have := HNl.out; omega
      have Hj := Lib.hid (fun w => Hb0.out j hlt w)
      generalize basisL 4 (j : Int) = r at *
      go_wp2_with fail
      refine (Hj.out _).mono ?_
      rintro e w2 ⟨v, rfl, hds, hb2⟩
      have hr2 := Hrow.out.block (hb2.block _ Hrow.out.lt) fun k _ _ hk => hb2.block k hk
      have f1 := fun o => hr2.free o
      obtain ⟨a9, c9, e0, -⟩ := hr2.cell (halfM_at hjN)
      have hgl := Nat.lt_of_lt_of_le Hrow.out.lt hb2.size
      have hr3 := Hrow.out.put (j := j) (by simp; omega) hds.upto hs hb2.size fun k hk => hb2.block k hk
      rw [Hst.out] at hr3
      have Hr3 := Lib.hid hr3
      have Hb2 := Lib.hid (Hb.out.trans (hb2.mono hs))
      obtain ⟨a2, cap3, rfl, _⟩ := hds
      clear hr3 hr2 hb2 Hrow Hj Hb0 HN
      go_wp2_with fail
      go_roundg (16 - (j + 1))
      case measure => omega
      case rel =>
        refine ⟨j + 1, rfl, by omega, by go_num, by simpa using Hr3, ?_⟩
        have := Hb2.out
        show Below _ _ _
        go_grown
    · obtain rfl : j = 16 := by omega
      have hrow := Hrow.out
      have HD := Lib.hid (show DSM wr w.heap.size wr.heap.size (.slice (some ⟨w.heap.size, 0, none⟩) 16 16) I from ⟨_, _, by rw [HNl.out], by rw [HNl.out]; exact Nat.le_refl _, fun _ => ⟨_, rfl, Nat.le_refl _, hrow.lt, by
        have h16 := hrow
        rw [← HNl.out, List.take_length, Nat.sub_self] at h16
        simpa using h16⟩⟩)
      clear hrow Hrow
      go_wp2_with fail
      go_ret
      exact ⟨_, rfl, HD.out, Hb.out⟩
theorem iident (n : Int) (w : World) (n0 : -9223372036854775808 ≤ n) (n1 : n ≤ 9223372036854775807) :
    Calls Try.prog 89 #[.int .i64 n] w fun e w' => ∃ v, e = .returned v ∧ DSM w' w.heap.size w'.heap.size v (idM n) ∧ Below w.heap.size w w' := by
  by_cases h : 1 ≤ n ∧ n ≤ 4
  · rcases (show n = 1 ∨ n = 2 ∨ n = 3 ∨ n = 4 by omega) with rfl | rfl | rfl | rfl
    · exact iident1 w
    · exact iident2 w
    · exact iident3 w
    · exact iident4 w
  · rw [idM_no h]
    have Hq := Lib.hid (fun w => iisq_no n w h n0 n1)
    clear h n0 n1
    go_enter Try.func89, Try.ntmps89
    go_wp2_with fail
    refine (Hq.out _).mono ?_
    rintro e w0 ⟨rfl, rfl⟩
    go_wp2_with fail
    go_ret
    exact ⟨_, rfl, DSM.nil, Below.refl _ _⟩
end Go.Proofs.Ytmpafidkpangeaa
namespace Go.Proofs.Ytmpafidkpangeaa
open Go.RowKit
attribute [local irreducible] World.cell?
set_option maxRecDepth 100000 in
set_option maxHeartbeats 1600000 in
theorem ivalidMt (B C : Nat) (v : Value) (M : List (List Dw)) (w : World) (hv : DSM w B C v M) (he : EbM M) (hn : M.length ≤ 1048576) (hm : amps M ≤ 1048576) :
    Calls Try.prog 95 #[v] w fun e w' => e = .returned (.bool (mtB M)) ∧ Below w.heap.size w w' := by
  obtain ⟨a, cap, rfl, hcap, hr⟩ := hv
  have Hr := Lib.hid hr
  have HeM := Lib.hid he
  clear hr he
  obtain ⟨R, hR⟩ : ∃ R, R = mtB M := ⟨_, rfl⟩
  rw [← hR]
  have HR := Lib.hid hR
  clear hR
  go_enter Try.func95, Try.ntmps95
  go_wp2_with fail
  go_loopg [7] M.length (fun k i wr => ∃ j : Nat, k = M.length - j ∧ j ≤ M.length ∧ i = .int .i64 j ∧ Hid ((M.take j).all (fun r => decide (r.length = M.length) && stB r) = true) ∧ Hid (Below w.heap.size w wr))
  case atStart => exact ⟨0, rfl, Nat.zero_le _, rfl, rfl, Below.refl _ _⟩
  case round =>
    obtain ⟨j, rfl, hj, rfl, Hall, Hb⟩ := hrel
    by_cases hlt : j < M.length
    · obtain ⟨g, rfl, _, _, hrow⟩ := Hr.out (by omega)
      obtain ⟨r, hr⟩ : ∃ r, M[j]? = some r := ⟨M[j], List.getElem?_eq_getElem hlt⟩
      have r1 := hrow.block (Hb.out.block _ hrow.lt) fun k _ _ hk => Hb.out.block k hk
      obtain ⟨p, pc, c0, hd1⟩ := r1.cell hr
      have Hd1 := Lib.hid hd1.dsl
      have Hat := Lib.hid (all_take (p := fun r => decide (r.length = M.length) && stB r) hr Hall.out)
      have Hno := Lib.hid (fun h => all_no (p := fun r => decide (r.length = M.length) && stB r) hr h)
      have He := Lib.hid (fun W (h1 : DSl W B (.slice p r.length pc) r) => ivalidSt B (.slice p r.length pc) r W h1 (HeM.out r (List.mem_of_getElem? hr)) (by have := amps_row hr; omega))
      have hrl := amps_row hr
      clear hd1 r1 hrow hr
      by_cases hlen : r.length = M.length
      · rw [hlen] at c0 He Hd1
        have Hlen := Lib.hid hlen
        clear hlen hrl
        have hd2 : ((M.length : Int) != M.length) = false := by simp
        cases hs : stB r with
        | false =>
          have hS : mtB M = false := by unfold mtB; rw [Hno.out (by rw [hs]; simp)]; simp
          obtain rfl : R = false := HR.out.trans hS
          rw [hs] at He
          go_wp2_with fail
          refine (He.out _ Hd1.out).mono ?_
          rintro e w2 ⟨rfl, hb2⟩
          have Hb2 := Lib.hid (below_up Hb.out hb2 Hb.out.size)
          clear hb2
          go_wp2_with fail
          go_ret
          exact ⟨rfl, Hb2.out⟩
        | true =>
          rw [hs] at He
          go_wp2_with fail
          refine (He.out _ Hd1.out).mono ?_
          rintro e w2 ⟨rfl, hb2⟩
          have Hb2 := Lib.hid (below_up Hb.out hb2 Hb.out.size)
          clear hb2
          go_wp2_with fail
          go_roundg (M.length - (j + 1))
          case measure => omega
          case rel => exact ⟨j + 1, rfl, by omega, by go_num, Lib.hid (by rw [Hat.out, hs, decide_eq_true Hlen.out]; rfl), Hb2⟩
      · have hS : mtB M = false := by unfold mtB; rw [Hno.out (by rw [decide_eq_false hlen]; rfl)]; simp
        obtain rfl : R = false := HR.out.trans hS
        have hd : ((r.length : Int) != (M.length : Int)) = true := by simp; omega
        go_wp2_with fail
        go_ret
        exact ⟨rfl, Hb.out⟩
    · obtain rfl : j = M.length := by omega
      have hall := Hall.out
      rw [List.take_length] at hall
      have hS : mtB M = decide (0 < M.length) := by unfold mtB; rw [hall, Bool.and_true]
      by_cases h0 : 0 < M.length
      · obtain rfl : R = true := HR.out.trans (hS.trans (decide_eq_true h0))
        go_wp2_with fail
        go_returns
        exact ⟨by simp <;> omega, Hb.out⟩
      · obtain rfl : R = false := HR.out.trans (hS.trans (decide_eq_false h0))
        go_wp2_with fail
        go_returns
        exact ⟨by simp <;> omega, Hb.out⟩
set_option maxRecDepth 100000 in
set_option maxHeartbeats 1600000 in
theorem iareM (P Q R S : Nat) (v u : Value) (a b : List (List Dw)) (w : World) (hv : DSM w P Q v a) (hu : DSM w R S u b) (ha : EbM a) (hb : EbM b) (hn : a.length ≤ 1048576) (hn' : b.length ≤ 1048576) (hm : amps a ≤ 1048576) (hm' : amps b ≤ 1048576) :
    Calls Try.prog 60 #[v, u] w fun e w' => e = .returned (.bool (mtB a && mtB b && decide (a.length = b.length))) ∧ Below w.heap.size w w' := by
  have H1 := Lib.hid (ivalidMt P Q v a w hv ha hn hm)
  have H2 := Lib.hid (fun W (h : DSM W R S u b) => ivalidMt R S u b W h hb hn' hm')
  have Hu := Lib.hid hu
  obtain ⟨p, cap, rfl, hcap, -⟩ := hv
  obtain ⟨p', cap', rfl, hcap', -⟩ := hu
  by_cases hl : a.length = b.length
  · have hd : ((a.length : Int) == b.length) = true := by simp; omega
    rw [decide_eq_true hl, Bool.and_true]
    clear hl
    cases hA : mtB a with
    | false =>
      rw [hA] at H1
      go_enter Try.func60, Try.ntmps60
      go_wp2_with fail
      refine (H1.out).mono ?_
      rintro e w1 ⟨rfl, hb1⟩
      have Hb1 := Lib.hid hb1
      clear hb1
      go_wp2_with fail
      go_ret
      exact ⟨rfl, Hb1.out⟩
    | true =>
      rw [hA] at H1
      go_enter Try.func60, Try.ntmps60
      go_wp2_with fail
      refine (H1.out).mono ?_
      rintro e w1 ⟨rfl, hb1⟩
      have Hb1 := Lib.hid hb1
      have Hu1 := Lib.hid (Hu.out.below hb1)
      clear hb1
      go_wp2_with fail
      refine (H2.out _ Hu1.out).mono ?_
      rintro e w2 ⟨rfl, hb2⟩
      have Hb2 := Lib.hid (below_nx Hb1.out hb2)
      clear hb2
      go_wp2_with fail
      go_ret
      exact ⟨rfl, Hb2.out⟩
  · have hd : ((a.length : Int) == b.length) = false := by simp; omega
    rw [decide_eq_false hl, Bool.and_false]
    clear hl
    go_enter Try.func60, Try.ntmps60
    go_wp2_with fail
    go_ret
    exact ⟨rfl, Below.refl _ _⟩
end Go.Proofs.Ytmpafidkpangeaa
