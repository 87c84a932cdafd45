/- BaseB22: several of our texts in one: MtKp MtKc MtKb DsKd. -/
import Derived.Test.YtmpafidkpangeaaGreatBaseB11
import Derived.Test.YtmpafidkpangeaaGreatDsKc
import Derived.Test.YtmpafidkpangeaaGreatBaseB20
import Derived.Test.YtmpafidkpangeaaGreatBaseB12
import Derived.Test.YtmpafidkpangeaaGreatBaseB14
import Derived.Test.YtmpafidkpangeaaGreatBaseB06
import Derived.Test.YtmpafidkpangeaaGreatPhF
namespace Go.Proofs.YtmpafidkpangeaaGreat
theorem root_zero : Zw.zero.root = Zw.zero := by decide
theorem rootN_zero : ∀ k : Nat, rootN k Zw.zero = Zw.zero
  | 0 => rfl
  | k + 1 => by rw [rootN, root_zero]; exact rootN_zero k
theorem upB_zero : ∀ k : Nat, upB k Zw.zero = true
  | 0 => rfl
  | k + 1 => by rw [upB, root_zero, upB_zero k]; decide
theorem red_zero : ∀ k : Nat, red k Zw.zero = (Zw.zero, 0)
  | 0 => rfl
  | k + 1 => by rw [red, if_pos (by decide), show divV Zw.zero = Zw.zero by decide]; exact red_zero k
theorem mul_zeroZ (x : Zw) : x.mul .zero = .zero := by simp [Zw.mul, Zw.zero]
theorem add_zeroZ (x : Zw) : x.add .zero = x := by simp [Zw.add, Zw.zero]
theorem new_zero {k : Int} (h0 : 0 ≤ k) (h1 : k ≤ 120) : newB .zero k = true ∧ newV .zero k = .zero := by
  have hb : newB .zero k = true := newB_iff.2 ⟨by decide, h0, h1, by rw [red_zero]; exact Nat.zero_le _⟩
  exact ⟨hb, by rw [newV_of hb, red_zero]; rfl⟩
theorem dmul_zero {x : Dw} (h : x.ok) : dMulB x .zero = true ∧ dMulV x .zero = .zero := by
  have hn := new_zero (k := x.e + Dw.zero.e) (by show 0 ≤ x.e + 0; have := h.2; omega) (by show x.e + 0 ≤ 120; have := h.2; omega)
  have hm : x.n.mul Dw.zero.n = .zero := mul_zeroZ x.n
  have hb : dMulB x .zero = true := dMulB_iff.2 ⟨h, zero_ok, mulB_iff.2 ⟨h.1, by decide, by rw [hm]; decide⟩, by rw [hm]; exact hn.1⟩
  exact ⟨hb, by rw [dMulV_of hb, hm]; exact hn.2⟩
theorem dzero_mul {x : Dw} (h : x.ok) : dMulB .zero x = true ∧ dMulV .zero x = .zero := by
  rw [dMulB_comm x .zero, dMulV_comm x .zero]
  exact dmul_zero h
theorem dadd_zeroK {s : Dw} (h : s.ok) : dAddB s .zero = true ∧ dAddV s .zero = s := by
  have ht : topE s .zero = s.e := by
    have := h.2
    unfold topE
    show (if (0 : Int) < s.e then s.e else 0) = s.e
    split <;> omega
  have ha : numA s .zero = s.n := by unfold numA; rw [ht, Int.sub_self]; rfl
  have hb : numB s .zero = .zero := by unfold numB; exact rootN_zero _
  have hs := newV_self h
  have e : dAddB s .zero = true := dAddB_iff.2 ⟨h, zero_ok, by rw [ht, Int.sub_self]; rfl, upB_zero _, by rw [ha, hb]; exact addB_iff.2 ⟨h.1, by decide, by rw [add_zeroZ]; exact h.1⟩, by rw [ha, hb, add_zeroZ, ht]; exact hs.1⟩
  exact ⟨e, by rw [dAddV_of e, ha, hb, add_zeroZ, ht]; exact hs.2⟩
theorem mrow_sum : ∀ (l : List (Dw × Dw)) (s : Dw), s.ok → (∀ p ∈ l, p.1.ok ∧ p.2.ok) → mrow s l = if l.all (fun p => dMulB p.1 p.2) then sumD s (l.map fun p => dMulV p.1 p.2) else none
  | [], s, _, _ => rfl
  | p :: l, s, hs, hl => by
    have hp := hl p (List.mem_cons_self ..)
    have hl' := fun q hq => hl q (List.mem_cons_of_mem _ hq)
    rw [mrow]
    simp only [List.all_cons, List.map_cons, sumD]
    by_cases hz : p.1 = .zero ∨ p.2 = .zero
    · have hm : dMulB p.1 p.2 = true ∧ dMulV p.1 p.2 = .zero := by
        rcases hz with h | h
        · rw [h]; exact dzero_mul hp.2
        · rw [h]; exact dmul_zero hp.1
      rw [if_pos hz, hm.1, hm.2, (dadd_zeroK hs).1, (dadd_zeroK hs).2, mrow_sum l s hs hl']
      simp only [Bool.true_and, if_true]
    · rw [if_neg hz]
      cases hb : dMulB p.1 p.2
      · simp
      · cases ha : dAddB s (dMulV p.1 p.2)
        · simp
        · rw [mrow_sum l _ (dAddV_ok ha) hl']
          simp only [Bool.true_and, Bool.and_self, if_true]
theorem row_sum {a b : List Dw} (ha : ∀ x ∈ a, x.ok) (hb : ∀ x ∈ b, x.ok) : rowO a b = if cmbB dMulB a b then sumD .zero (cmbL dMulV dMulB a b) else none := by
  have h := mrow_sum (a.zip b) .zero zero_ok fun p hp => ⟨ha _ (List.of_mem_zip hp).1, hb _ (List.of_mem_zip hp).2⟩
  unfold rowO
  rw [h]
  by_cases hc : cmbB dMulB a b = true
  · rw [if_pos (show (a.zip b).all (fun p => dMulB p.1 p.2) = true from hc), if_pos hc, cmbL, if_pos hc]
  · rw [if_neg (show ¬ (a.zip b).all (fun p => dMulB p.1 p.2) = true from hc), if_neg hc]
theorem eb_cmbM (a b : List Dw) : Eb (cmbL dMulV dMulB a b) := by
  intro y hy
  unfold cmbL at hy
  split at hy
  · obtain ⟨p, -, rfl⟩ := List.mem_map.1 hy
    exact mul_eb _ _
  · cases hy
theorem len_cmbM (V : Dw → Dw → Dw) (T : Dw → Dw → Bool) (a b : List Dw) : (cmbL V T a b).length ≤ b.length := by
  unfold cmbL
  split
  · rw [List.length_map, List.length_zip]; omega
  · exact Nat.zero_le _
end Go.Proofs.YtmpafidkpangeaaGreat
namespace Go.Proofs.YtmpafidkpangeaaGreat
open Go.RowKit
theorem idM_get {n : Int} (h : 1 ≤ n ∧ n ≤ 4) {j : Nat} (hj : j < 2 ^ n.toNat) : (idM n)[j]? = some (basisL n (j : Int)) := by
  rw [idM_yes h, List.getElem?_map, List.getElem?_range hj]; rfl
attribute [local irreducible] World.cell?
set_option maxRecDepth 100000 in
set_option maxHeartbeats 3200000 in
theorem iident1 (w : World) :
    Calls Tryz.prog 46 #[.int .i64 1] w fun e w' => ∃ u, e = .returned u ∧ DSM w' w.heap.size w'.heap.size u (idM 1) ∧ Below w.heap.size w w' := by
  obtain ⟨i0, hi, hz0, hz1, hz2⟩ := info_parts infoDs
  have Hq := Lib.hid (fun w => iisq_yes 1 w (by decide))
  have Hb0 := Lib.hid (fun (j : Nat) (hj : j < 2) w => ibasis 1 j w (by decide) (by decide) (by omega) (by omega))
  have HN := Lib.hid (fun (j : Nat) (hj : j < 2) => idM_get (n := 1) (by decide) (j := j) hj)
  have HNl := Lib.hid (show (idM 1).length = 2 from idM_len (by decide))
  generalize idM 1 = I at *
  go_enter Tryz.func46, Tryz.ntmps46
  go_wp2_with fail
  refine (Hq.out _).mono ?_
  rintro e w0 ⟨rfl, rfl⟩
  go_wp2_with (first | (at_make; refine wpList_make_full _ rfl _ _ 28 rfl w.heap.size 36 i0 (.slice none 0 0) 1 Tryz.underlying28 hi hz0 hz1 .i64 .i64 2 2 2 rfl rfl rfl rfl (by rw [hz2]; omega) (by unfold maxLen; omega) (Nat.le_refl _) ?_))
  intro w1 hown hgrow
  have hb1 : Below w.heap.size w w1 := (Below.refl _ _).grown hgrow (Nat.le_refl _) (fun k hk => by cases hk)
  have hrow1 : MRow w1 w.heap.size w1.heap.size w.heap.size (List.replicate 2 []) := by
    rcases hown.2 with ⟨h, _⟩ | ⟨g, cap, cur, hv, hb, hg, _, _, hs, ht⟩
    · cases h
    · obtain ⟨rfl, rfl⟩ : g = w.heap.size ∧ cap = 2 := by injection hv with hv _ hv2; injection hv with hv; injection hv with hv; exact ⟨hv.symm, hv2.symm⟩
      refine ⟨cur, _, hg, ?_, rows_nil (n := 2)⟩
      rw [List.length_replicate, ← made_slices 2]
      first | exact ht | simpa using ht
  rw [← HNl.out] at hrow1
  have Hb1 := Lib.hid hb1
  have Hrow1 := Lib.hid hrow1
  clear hown hgrow hb1 hrow1
  go_wp2_with fail
  go_loopg [13] 2 (fun n i wr => ∃ j : Nat, n = 2 - j ∧ j ≤ 2 ∧ i = .int .i64 j ∧ Hid (MRow wr w.heap.size wr.heap.size w.heap.size (I.take j ++ List.replicate (I.length - j) [])) ∧ Hid (Below w.heap.size w wr))
  case atStart => exact ⟨0, rfl, Nat.zero_le _, rfl, by simpa using Hrow1, Hb1⟩
  case round =>
    obtain ⟨j, rfl, hj, rfl, Hrow, Hb⟩ := hrel
    have hs := Hb.out.size
    by_cases hlt : j < 2
    · have hlt' : (j : Int) < 2 := by omega
      have Hst := Lib.hid (halfM_set (HN.out j hlt))
      have hjN : j < I.length := by have := HNl.out; omega
      have Hj := Lib.hid (fun w => Hb0.out j hlt w)
      generalize basisL 1 (j : Int) = r at *
      go_wp2_with fail
      refine (Hj.out _).mono ?_
      rintro e w2 ⟨v, rfl, hds, hb2⟩
      have hr2 := Hrow.out.block (hb2.block _ Hrow.out.lt) fun k _ _ hk => hb2.block k hk
      have f1 := fun o => hr2.free o
      obtain ⟨a9, c9, e0, -⟩ := hr2.cell (halfM_at hjN)
      have hgl := Nat.lt_of_lt_of_le Hrow.out.lt hb2.size
      have hr3 := Hrow.out.put (j := j) (by simp; omega) hds.upto hs hb2.size fun k hk => hb2.block k hk
      rw [Hst.out] at hr3
      have Hr3 := Lib.hid hr3
      have Hb2 := Lib.hid (Hb.out.trans (hb2.mono hs))
      obtain ⟨a2, cap3, rfl, _⟩ := hds
      clear hr3 hr2 hb2 Hrow Hj Hb0 HN
      go_wp2_with fail
      go_roundg (2 - (j + 1))
      case measure => omega
      case rel =>
        refine ⟨j + 1, rfl, by omega, by go_num, by simpa using Hr3, ?_⟩
        have := Hb2.out
        show Below _ _ _
        go_grown
    · obtain rfl : j = 2 := by omega
      have hrow := Hrow.out
      have HD := Lib.hid (show DSM wr w.heap.size wr.heap.size (.slice (some ⟨w.heap.size, 0, none⟩) 2 2) I from ⟨_, _, by rw [HNl.out], by rw [HNl.out]; exact Nat.le_refl _, fun _ => ⟨_, rfl, Nat.le_refl _, hrow.lt, by
        have h16 := hrow
        rw [← HNl.out, List.take_length, Nat.sub_self] at h16
        simpa using h16⟩⟩)
      clear hrow Hrow
      go_wp2_with fail
      go_ret
      exact ⟨_, rfl, HD.out, Hb.out⟩
set_option maxRecDepth 100000 in
set_option maxHeartbeats 3200000 in
theorem iident2 (w : World) :
    Calls Tryz.prog 46 #[.int .i64 2] w fun e w' => ∃ u, e = .returned u ∧ DSM w' w.heap.size w'.heap.size u (idM 2) ∧ Below w.heap.size w w' := by
  obtain ⟨i0, hi, hz0, hz1, hz2⟩ := info_parts infoDs
  have Hq := Lib.hid (fun w => iisq_yes 2 w (by decide))
  have Hb0 := Lib.hid (fun (j : Nat) (hj : j < 4) w => ibasis 2 j w (by decide) (by decide) (by omega) (by omega))
  have HN := Lib.hid (fun (j : Nat) (hj : j < 4) => idM_get (n := 2) (by decide) (j := j) hj)
  have HNl := Lib.hid (show (idM 2).length = 4 from idM_len (by decide))
  generalize idM 2 = I at *
  go_enter Tryz.func46, Tryz.ntmps46
  go_wp2_with fail
  refine (Hq.out _).mono ?_
  rintro e w0 ⟨rfl, rfl⟩
  go_wp2_with (first | (at_make; refine wpList_make_full _ rfl _ _ 28 rfl w.heap.size 36 i0 (.slice none 0 0) 1 Tryz.underlying28 hi hz0 hz1 .i64 .i64 4 4 4 rfl rfl rfl rfl (by rw [hz2]; omega) (by unfold maxLen; omega) (Nat.le_refl _) ?_))
  intro w1 hown hgrow
  have hb1 : Below w.heap.size w w1 := (Below.refl _ _).grown hgrow (Nat.le_refl _) (fun k hk => by cases hk)
  have hrow1 : MRow w1 w.heap.size w1.heap.size w.heap.size (List.replicate 4 []) := by
    rcases hown.2 with ⟨h, _⟩ | ⟨g, cap, cur, hv, hb, hg, _, _, hs, ht⟩
    · cases h
    · obtain ⟨rfl, rfl⟩ : g = w.heap.size ∧ cap = 4 := by injection hv with hv _ hv2; injection hv with hv; injection hv with hv; exact ⟨hv.symm, hv2.symm⟩
      refine ⟨cur, _, hg, ?_, rows_nil (n := 4)⟩
      rw [List.length_replicate, ← made_slices 4]
      first | exact ht | simpa using ht
  rw [← HNl.out] at hrow1
  have Hb1 := Lib.hid hb1
  have Hrow1 := Lib.hid hrow1
  clear hown hgrow hb1 hrow1
  go_wp2_with fail
  go_loopg [13] 4 (fun n i wr => ∃ j : Nat, n = 4 - j ∧ j ≤ 4 ∧ i = .int .i64 j ∧ Hid (MRow wr w.heap.size wr.heap.size w.heap.size (I.take j ++ List.replicate (I.length - j) [])) ∧ Hid (Below w.heap.size w wr))
  case atStart => exact ⟨0, rfl, Nat.zero_le _, rfl, by simpa using Hrow1, Hb1⟩
  case round =>
    obtain ⟨j, rfl, hj, rfl, Hrow, Hb⟩ := hrel
    have hs := Hb.out.size
    by_cases hlt : j < 4
    · have hlt' : (j : Int) < 4 := by omega
      have Hst := Lib.hid (halfM_set (HN.out j hlt))
      have hjN : j < I.length := by have := HNl.out; omega
      have Hj := Lib.hid (fun w => Hb0.out j hlt w)
      generalize basisL 2 (j : Int) = r at *
      go_wp2_with fail
      refine (Hj.out _).mono ?_
      rintro e w2 ⟨v, rfl, hds, hb2⟩
      have hr2 := Hrow.out.block (hb2.block _ Hrow.out.lt) fun k _ _ hk => hb2.block k hk
      have f1 := fun o => hr2.free o
      obtain ⟨a9, c9, e0, -⟩ := hr2.cell (halfM_at hjN)
      have hgl := Nat.lt_of_lt_of_le Hrow.out.lt hb2.size
      have hr3 := Hrow.out.put (j := j) (by simp; omega) hds.upto hs hb2.size fun k hk => hb2.block k hk
      rw [Hst.out] at hr3
      have Hr3 := Lib.hid hr3
      have Hb2 := Lib.hid (Hb.out.trans (hb2.mono hs))
      obtain ⟨a2, cap3, rfl, _⟩ := hds
      clear hr3 hr2 hb2 Hrow Hj Hb0 HN
      go_wp2_with fail
      go_roundg (4 - (j + 1))
      case measure => omega
      case rel =>
        refine ⟨j + 1, rfl, by omega, by go_num, by simpa using Hr3, ?_⟩
        have := Hb2.out
        show Below _ _ _
        go_grown
    · obtain rfl : j = 4 := by omega
      have hrow := Hrow.out
      have HD := Lib.hid (show DSM wr w.heap.size wr.heap.size (.slice (some ⟨w.heap.size, 0, none⟩) 4 4) I from ⟨_, _, by rw [HNl.out], by rw [HNl.out]; exact Nat.le_refl _, fun _ => ⟨_, rfl, Nat.le_refl _, hrow.lt, by
        have h16 := hrow
        rw [← HNl.out, List.take_length, Nat.sub_self] at h16
        simpa using h16⟩⟩)
      clear hrow Hrow
      go_wp2_with fail
      go_ret
      exact ⟨_, rfl, HD.out, Hb.out⟩
set_option maxRecDepth 100000 in
set_option maxHeartbeats 3200000 in
theorem iident3 (w : World) :
    Calls Tryz.prog 46 #[.int .i64 3] w fun e w' => ∃ u, e = .returned u ∧ DSM w' w.heap.size w'.heap.size u (idM 3) ∧ Below w.heap.size w w' := by
  obtain ⟨i0, hi, hz0, hz1, hz2⟩ := info_parts infoDs
  have Hq := Lib.hid (fun w => iisq_yes 3 w (by decide))
  have Hb0 := Lib.hid (fun (j : Nat) (hj : j < 8) w => ibasis 3 j w (by decide) (by decide) (by omega) (by omega))
  have HN := Lib.hid (fun (j : Nat) (hj : j < 8) => idM_get (n := 3) (by decide) (j := j) hj)
  have HNl := Lib.hid (show (idM 3).length = 8 from idM_len (by decide))
  generalize idM 3 = I at *
  go_enter Tryz.func46, Tryz.ntmps46
  go_wp2_with fail
  refine (Hq.out _).mono ?_
  rintro e w0 ⟨rfl, rfl⟩
  go_wp2_with (first | (at_make; refine wpList_make_full _ rfl _ _ 28 rfl w.heap.size 36 i0 (.slice none 0 0) 1 Tryz.underlying28 hi hz0 hz1 .i64 .i64 8 8 8 rfl rfl rfl rfl (by rw [hz2]; omega) (by unfold maxLen; omega) (Nat.le_refl _) ?_))
  intro w1 hown hgrow
  have hb1 : Below w.heap.size w w1 := (Below.refl _ _).grown hgrow (Nat.le_refl _) (fun k hk => by cases hk)
  have hrow1 : MRow w1 w.heap.size w1.heap.size w.heap.size (List.replicate 8 []) := by
    rcases hown.2 with ⟨h, _⟩ | ⟨g, cap, cur, hv, hb, hg, _, _, hs, ht⟩
    · cases h
    · obtain ⟨rfl, rfl⟩ : g = w.heap.size ∧ cap = 8 := by injection hv with hv _ hv2; injection hv with hv; injection hv with hv; exact ⟨hv.symm, hv2.symm⟩
      refine ⟨cur, _, hg, ?_, rows_nil (n := 8)⟩
      rw [List.length_replicate, ← made_slices 8]
      first | exact ht | simpa using ht
  rw [← HNl.out] at hrow1
  have Hb1 := Lib.hid hb1
  have Hrow1 := Lib.hid hrow1
  clear hown hgrow hb1 hrow1
  go_wp2_with fail
  go_loopg [13] 8 (fun n i wr => ∃ j : Nat, n = 8 - j ∧ j ≤ 8 ∧ i = .int .i64 j ∧ Hid (MRow wr w.heap.size wr.heap.size w.heap.size (I.take j ++ List.replicate (I.length - j) [])) ∧ Hid (Below w.heap.size w wr))
  case atStart => exact ⟨0, rfl, Nat.zero_le _, rfl, by simpa using Hrow1, Hb1⟩
  case round =>
    obtain ⟨j, rfl, hj, rfl, Hrow, Hb⟩ := hrel
    have hs := Hb.out.size
    by_cases hlt : j < 8
    · have hlt' : (j : Int) < 8 := by omega
      have Hst := Lib.hid (halfM_set (HN.out j hlt))
      have hjN : j < I.length := by have := HNl.out; omega
      have Hj := Lib.hid (fun w => Hb0.out j hlt w)
      generalize basisL 3 (j : Int) = r at *
      go_wp2_with fail
      refine (Hj.out _).mono ?_
      rintro e w2 ⟨v, rfl, hds, hb2⟩
      have hr2 := Hrow.out.block (hb2.block _ Hrow.out.lt) fun k _ _ hk => hb2.block k hk
      have f1 := fun o => hr2.free o
      obtain ⟨a9, c9, e0, -⟩ := hr2.cell (halfM_at hjN)
      have hgl := Nat.lt_of_lt_of_le Hrow.out.lt hb2.size
      have hr3 := Hrow.out.put (j := j) (by simp; omega) hds.upto hs hb2.size fun k hk => hb2.block k hk
      rw [Hst.out] at hr3
      have Hr3 := Lib.hid hr3
      have Hb2 := Lib.hid (Hb.out.trans (hb2.mono hs))
      obtain ⟨a2, cap3, rfl, _⟩ := hds
      clear hr3 hr2 hb2 Hrow Hj Hb0 HN
      go_wp2_with fail
      go_roundg (8 - (j + 1))
      case measure => omega
      case rel =>
        refine ⟨j + 1, rfl, by omega, by go_num, by simpa using Hr3, ?_⟩
        have := Hb2.out
        show Below _ _ _
        go_grown
    · obtain rfl : j = 8 := by omega
      have hrow := Hrow.out
      have HD := Lib.hid (show DSM wr w.heap.size wr.heap.size (.slice (some ⟨w.heap.size, 0, none⟩) 8 8) I from ⟨_, _, by rw [HNl.out], by rw [HNl.out]; exact Nat.le_refl _, fun _ => ⟨_, rfl, Nat.le_refl _, hrow.lt, by
        have h16 := hrow
        rw [← HNl.out, List.take_length, Nat.sub_self] at h16
        simpa using h16⟩⟩)
      clear hrow Hrow
      go_wp2_with fail
      go_ret
      exact ⟨_, rfl, HD.out, Hb.out⟩
set_option maxRecDepth 100000 in
set_option maxHeartbeats 3200000 in
theorem iident4 (w : World) :
    Calls Tryz.prog 46 #[.int .i64 4] w fun e w' => ∃ u, e = .returned u ∧ DSM w' w.heap.size w'.heap.size u (idM 4) ∧ Below w.heap.size w w' := by
  obtain ⟨i0, hi, hz0, hz1, hz2⟩ := info_parts infoDs
  have Hq := Lib.hid (fun w => iisq_yes 4 w (by decide))
  have Hb0 := Lib.hid (fun (j : Nat) (hj : j < 16) w => ibasis 4 j w (by decide) (by decide) (by omega) (by omega))
  have HN := Lib.hid (fun (j : Nat) (hj : j < 16) => idM_get (n := 4) (by decide) (j := j) hj)
  have HNl := Lib.hid (show (idM 4).length = 16 from idM_len (by decide))
  generalize idM 4 = I at *
  go_enter Tryz.func46, Tryz.ntmps46
  go_wp2_with fail
  refine (Hq.out _).mono ?_
  rintro e w0 ⟨rfl, rfl⟩
  go_wp2_with (first | (at_make; refine wpList_make_full _ rfl _ _ 28 rfl w.heap.size 36 i0 (.slice none 0 0) 1 Tryz.underlying28 hi hz0 hz1 .i64 .i64 16 16 16 rfl rfl rfl rfl (by rw [hz2]; omega) (by unfold maxLen; omega) (Nat.le_refl _) ?_))
  intro w1 hown hgrow
  have hb1 : Below w.heap.size w w1 := (Below.refl _ _).grown hgrow (Nat.le_refl _) (fun k hk => by cases hk)
  have hrow1 : MRow w1 w.heap.size w1.heap.size w.heap.size (List.replicate 16 []) := by
    rcases hown.2 with ⟨h, _⟩ | ⟨g, cap, cur, hv, hb, hg, _, _, hs, ht⟩
    · cases h
    · obtain ⟨rfl, rfl⟩ : g = w.heap.size ∧ cap = 16 := by injection hv with hv _ hv2; injection hv with hv; injection hv with hv; exact ⟨hv.symm, hv2.symm⟩
      refine ⟨cur, _, hg, ?_, rows_nil (n := 16)⟩
      rw [List.length_replicate, ← made_slices 16]
      first | exact ht | simpa using ht
  rw [← HNl.out] at hrow1
  have Hb1 := Lib.hid hb1
  have Hrow1 := Lib.hid hrow1
  clear hown hgrow hb1 hrow1
  go_wp2_with fail
  go_loopg [13] 16 (fun n i wr => ∃ j : Nat, n = 16 - j ∧ j ≤ 16 ∧ i = .int .i64 j ∧ Hid (MRow wr w.heap.size wr.heap.size w.heap.size (I.take j ++ List.replicate (I.length - j) [])) ∧ Hid (Below w.heap.size w wr))
  case atStart => exact ⟨0, rfl, Nat.zero_le _, rfl, by simpa using Hrow1, Hb1⟩
  case round =>
    obtain ⟨j, rfl, hj, rfl, Hrow, Hb⟩ := hrel
    have hs := Hb.out.size
    by_cases hlt : j < 16
    · have hlt' : (j : Int) < 16 := by omega
      have Hst := Lib.hid (halfM_set (HN.out j hlt))
      have hjN : j < I.length := by have := HNl.out; omega
      have Hj := Lib.hid (fun w => Hb0.out j hlt w)
      generalize basisL 4 (j : Int) = r at *
      go_wp2_with fail
      refine (Hj.out _).mono ?_
      rintro e w2 ⟨v, rfl, hds, hb2⟩
      have hr2 := Hrow.out.block (hb2.block _ Hrow.out.lt) fun k _ _ hk => hb2.block k hk
      have f1 := fun o => hr2.free o
      obtain ⟨a9, c9, e0, -⟩ := hr2.cell (halfM_at hjN)
      have hgl := Nat.lt_of_lt_of_le Hrow.out.lt hb2.size
      have hr3 := Hrow.out.put (j := j) (by simp; omega) hds.upto hs hb2.size fun k hk => hb2.block k hk
      rw [Hst.out] at hr3
      have Hr3 := Lib.hid hr3
      have Hb2 := Lib.hid (Hb.out.trans (hb2.mono hs))
      obtain ⟨a2, cap3, rfl, _⟩ := hds
      clear hr3 hr2 hb2 Hrow Hj Hb0 HN
      go_wp2_with fail
      go_roundg (16 - (j + 1))
      case measure => omega
      case rel =>
        refine ⟨j + 1, rfl, by omega, by go_num, by simpa using Hr3, ?_⟩
        have := Hb2.out
        show Below _ _ _
        go_grown
    · obtain rfl : j = 16 := by omega
      have hrow := Hrow.out
      have HD := Lib.hid (show DSM wr w.heap.size wr.heap.size (.slice (some ⟨w.heap.size, 0, none⟩) 16 16) I from ⟨_, _, by rw [HNl.out], by rw [HNl.out]; exact Nat.le_refl _, fun _ => ⟨_, rfl, Nat.le_refl _, hrow.lt, by
        have h16 := hrow
        rw [← HNl.out, List.take_length, Nat.sub_self] at h16
        simpa using h16⟩⟩)
      clear hrow Hrow
      go_wp2_with fail
      go_ret
      exact ⟨_, rfl, HD.out, Hb.out⟩
theorem iident (n : Int) (w : World) (n0 : -9223372036854775808 ≤ n) (n1 : n ≤ 9223372036854775807) :
    Calls Tryz.prog 46 #[.int .i64 n] w fun e w' => ∃ v, e = .returned v ∧ DSM w' w.heap.size w'.heap.size v (idM n) ∧ Below w.heap.size w w' := by
  by_cases h : 1 ≤ n ∧ n ≤ 4
  · rcases (show n = 1 ∨ n = 2 ∨ n = 3 ∨ n = 4 by omega) with rfl | rfl | rfl | rfl
    · exact iident1 w
    · exact iident2 w
    · exact iident3 w
    · exact iident4 w
  · rw [idM_no h]
    have Hq := Lib.hid (fun w => iisq_no n w h n0 n1)
    clear h n0 n1
    go_enter Tryz.func46, Tryz.ntmps46
    go_wp2_with fail
    refine (Hq.out _).mono ?_
    rintro e w0 ⟨rfl, rfl⟩
    go_wp2_with fail
    go_ret
    exact ⟨_, rfl, DSM.nil, Below.refl _ _⟩
end Go.Proofs.YtmpafidkpangeaaGreat
namespace Go.Proofs.YtmpafidkpangeaaGreat
open Go.RowKit
attribute [local irreducible] World.cell?
set_option maxRecDepth 100000 in
set_option maxHeartbeats 1600000 in
theorem ivalidMt (B C : Nat) (v : Value) (M : List (List Dw)) (w : World) (hv : DSM w B C v M) (he : EbM M) (hn : M.length ≤ 1048576) (hm : amps M ≤ 1048576) :
    Calls Tryz.prog 66 #[v] w fun e w' => e = .returned (.bool (mtB M)) ∧ Below w.heap.size w w' := by
  obtain ⟨a, cap, rfl, hcap, hr⟩ := hv
  have Hr := Lib.hid hr
  have HeM := Lib.hid he
  clear hr he
  obtain ⟨R, hR⟩ : ∃ R, R = mtB M := ⟨_, rfl⟩
  rw [← hR]
  have HR := Lib.hid hR
  clear hR
  go_enter Tryz.func66, Tryz.ntmps66
  go_wp2_with fail
  go_loopg [7] M.length (fun k i wr => ∃ j : Nat, k = M.length - j ∧ j ≤ M.length ∧ i = .int .i64 j ∧ Hid ((M.take j).all (fun r => decide (r.length = M.length) && stB r) = true) ∧ Hid (Below w.heap.size w wr))
  case atStart => exact ⟨0, rfl, Nat.zero_le _, rfl, rfl, Below.refl _ _⟩
  case round =>
    obtain ⟨j, rfl, hj, rfl, Hall, Hb⟩ := hrel
    by_cases hlt : j < M.length
    · obtain ⟨g, rfl, _, _, hrow⟩ := Hr.out (by omega)
      obtain ⟨r, hr⟩ : ∃ r, M[j]? = some r := ⟨M[j], List.getElem?_eq_getElem hlt⟩
      have r1 := hrow.block (Hb.out.block _ hrow.lt) fun k _ _ hk => Hb.out.block k hk
      obtain ⟨p, pc, c0, hd1⟩ := r1.cell hr
      have Hd1 := Lib.hid hd1.dsl
      have Hat := Lib.hid (all_take (p := fun r => decide (r.length = M.length) && stB r) hr Hall.out)
      have Hno := Lib.hid (fun h => all_no (p := fun r => decide (r.length = M.length) && stB r) hr h)
      have He := Lib.hid (fun W (h1 : DSl W B (.slice p r.length pc) r) => ivalidSt B (.slice p r.length pc) r W h1 (HeM.out r (List.mem_of_getElem? hr)) (by have := amps_row hr; omega))
      have hrl := amps_row hr
      clear hd1 r1 hrow hr
      by_cases hlen : r.length = M.length
      · rw [hlen] at c0 He Hd1
        have Hlen := Lib.hid hlen
        clear hlen hrl
        have hd2 : ((M.length : Int) != M.length) = false := by simp
        cases hs : stB r with
        | false =>
          have hS : mtB M = false := by unfold mtB; rw [Hno.out (by rw [hs]; simp)]; simp
          obtain rfl : R = false := HR.out.trans hS
          rw [hs] at He
          go_wp2_with fail
          refine (He.out _ Hd1.out).mono ?_
          rintro e w2 ⟨rfl, hb2⟩
          have Hb2 := Lib.hid (below_up Hb.out hb2 Hb.out.size)
          clear hb2
          go_wp2_with fail
          go_ret
          exact ⟨rfl, Hb2.out⟩
        | true =>
          rw [hs] at He
          go_wp2_with fail
          refine (He.out _ Hd1.out).mono ?_
          rintro e w2 ⟨rfl, hb2⟩
          have Hb2 := Lib.hid (below_up Hb.out hb2 Hb.out.size)
          clear hb2
          go_wp2_with fail
          go_roundg (M.length - (j + 1))
          case measure => omega
          case rel => exact ⟨j + 1, rfl, by omega, by go_num, Lib.hid (by rw [Hat.out, hs, decide_eq_true Hlen.out]; rfl), Hb2⟩
      · have hS : mtB M = false := by unfold mtB; rw [Hno.out (by rw [decide_eq_false hlen]; rfl)]; simp
        obtain rfl : R = false := HR.out.trans hS
        have hd : ((r.length : Int) != (M.length : Int)) = true := by simp; omega
        go_wp2_with fail
        go_ret
        exact ⟨rfl, Hb.out⟩
    · obtain rfl : j = M.length := by omega
      have hall := Hall.out
      rw [List.take_length] at hall
      have hS : mtB M = decide (0 < M.length) := by unfold mtB; rw [hall, Bool.and_true]
      by_cases h0 : 0 < M.length
      · obtain rfl : R = true := HR.out.trans (hS.trans (decide_eq_true h0))
        go_wp2_with fail
        go_returns
        exact ⟨by simp <;> omega, Hb.out⟩
      · obtain rfl : R = false := HR.out.trans (hS.trans (decide_eq_false h0))
        go_wp2_with fail
        go_returns
        exact ⟨by simp <;> omega, Hb.out⟩
set_option maxRecDepth 100000 in
set_option maxHeartbeats 1600000 in
theorem iefM (B C D E : Nat) (v u : Value) (M N : List (List Dw)) (w : World) (hv : DSM w B C v M) (hu : DSM w D E u N) (hn : M.length ≤ 1048576) (_ : N.length ≤ 1048576) (hm : amps M ≤ 1048576) (hm' : amps N ≤ 1048576) :
    Calls Tryz.prog 104 #[v, u, .func (.func 105) #[] #[]] w fun e w' => e = .returned (.bool (decide (M = N))) ∧ Below w.heap.size w w' := by
  obtain ⟨a, cap, rfl, hcap, hr⟩ := hv
  obtain ⟨a', cap', rfl, hcap', hr'⟩ := hu
  have Hr := Lib.hid hr
  have Hr' := Lib.hid hr'
  clear hr hr'
  by_cases hl : M.length = N.length
  · obtain ⟨R, hR⟩ : ∃ R, R = decide (M = N) := ⟨_, rfl⟩
    rw [← hR]
    have HR := Lib.hid hR
    clear hR
    rw [← hl] at Hr' hcap' ⊢
    have Hl := Lib.hid hl
    clear hl
    have hd2 : ((M.length : Int) != M.length) = false := by simp
    go_enter Tryz.func104, Tryz.ntmps104
    go_wp2_with fail
    go_loopg [17] M.length (fun k i wr => ∃ j : Nat, k = M.length - j ∧ j ≤ M.length ∧ i = .int .i64 j ∧ Hid (M.take j = N.take j) ∧ Hid (Below w.heap.size w wr))
    case atStart => exact ⟨0, rfl, Nat.zero_le _, rfl, rfl, Below.refl _ _⟩
    case round =>
      obtain ⟨j, rfl, hj, rfl, Heq, Hb⟩ := hrel
      by_cases hlt : j < M.length
      · obtain ⟨g, rfl, _, _, hrow⟩ := Hr.out (by omega)
        obtain ⟨g', rfl, _, _, hrow'⟩ := Hr'.out (by omega)
        obtain ⟨x, hx⟩ : ∃ r, M[j]? = some r := ⟨M[j], List.getElem?_eq_getElem hlt⟩
        obtain ⟨y, hy⟩ : ∃ r, N[j]? = some r := ⟨N[j]'(by have := Hl.out; omega), List.getElem?_eq_getElem _⟩
        have r1 := hrow.block (Hb.out.block _ hrow.lt) fun k _ _ hk => Hb.out.block k hk
        have r2 := hrow'.block (Hb.out.block _ hrow'.lt) fun k _ _ hk => Hb.out.block k hk
        obtain ⟨p, pc, c0, hd1⟩ := r1.cell hx
        obtain ⟨q, qc, c1, hd2⟩ := r2.cell hy
        have hgl := r1.lt
        have hgl' := r2.lt
        have Hx := Lib.hid hx
        have Hy := Lib.hid hy
        have He := Lib.hid (fun W (h1 : Hid (DSl W B (.slice p x.length pc) x)) (h2 : Hid (DSl W D (.slice q y.length qc) y)) => iequalSt B D (.slice p x.length pc) (.slice q y.length qc) x y W h1.out h2.out (by have := amps_row hx; omega) (by have := amps_row hy; omega))
        have Hd1 := Lib.hid hd1.dsl
        have Hd2 := Lib.hid hd2.dsl
        clear hd1 hd2 r1 r2 hrow hrow' hx hy
        by_cases hxy : x = y
        · rw [decide_eq_true hxy] at He
          have Hxy := Lib.hid hxy
          clear hxy
          go_wp2_with fail
          refine (He.out _ Hd1 Hd2).mono ?_
          rintro e wR ⟨rfl, hbR⟩
          have Hb2 := Lib.hid (below_up Hb.out hbR Hb.out.size)
          go_wp2_with fail
          go_roundg (M.length - (j + 1))
          case measure => omega
          case rel => exact ⟨j + 1, rfl, by omega, by go_num, Lib.hid (eq_takeM Hx.out Hy.out Heq.out Hxy.out), Hb2⟩
        · rw [decide_eq_false hxy] at He
          have hF : M ≠ N := fun h => hxy (by have h1 := Hx.out; rw [h, Hy.out] at h1; injection h1 with h1; exact h1.symm)
          obtain rfl : R = false := HR.out.trans (decide_eq_false hF)
          clear hF hxy
          go_wp2_with fail
          refine (He.out _ Hd1 Hd2).mono ?_
          rintro e wR ⟨rfl, hbR⟩
          have Hb2 := Lib.hid (below_up Hb.out hbR Hb.out.size)
          go_wp2_with fail
          go_ret
          exact ⟨rfl, Hb2.out⟩
      · obtain rfl : j = M.length := by omega
        have heq := Heq.out
        rw [List.take_length, Hl.out, List.take_length] at heq
        obtain rfl : R = true := HR.out.trans (decide_eq_true heq)
        go_wp2_with fail
        go_ret
        exact ⟨rfl, Hb.out⟩
  · rw [decide_eq_false (fun h => hl (by rw [h]))]
    have hd2 : ((M.length : Int) != N.length) = true := by simp; omega
    go_enter Tryz.func104, Tryz.ntmps104
    go_wp2_with fail
    go_ret
    exact ⟨rfl, Below.refl _ _⟩
set_option maxRecDepth 100000 in
set_option maxHeartbeats 1600000 in
theorem iequalMt (P Q R S : Nat) (v u : Value) (A B : List (List Dw)) (w : World) (hv : DSM w P Q v A) (hu : DSM w R S u B) (hn : A.length ≤ 1048576) (hn' : B.length ≤ 1048576) (hm : amps A ≤ 1048576) (hm' : amps B ≤ 1048576) :
    Calls Tryz.prog 45 #[v, u] w fun e w' => e = .returned (.bool (decide (A = B))) ∧ Below w.heap.size w w' := by
  have H1 := Lib.hid (iefM P Q R S v u A B w hv hu hn hn' hm hm')
  generalize decide (A = B) = T at *
  clear hv hu hn hn' hm hm'
  go_enter Tryz.func45, Tryz.ntmps45
  go_wp2_with fail
  refine (H1.out).mono ?_
  rintro e w1 ⟨rfl, hb1⟩
  have Hb1 := Lib.hid hb1
  clear hb1
  go_wp2_with fail
  go_ret
  exact ⟨rfl, Hb1.out⟩
set_option maxRecDepth 100000 in
set_option maxHeartbeats 1600000 in
theorem iareM (P Q R S : Nat) (v u : Value) (a b : List (List Dw)) (w : World) (hv : DSM w P Q v a) (hu : DSM w R S u b) (ha : EbM a) (hb : EbM b) (hn : a.length ≤ 1048576) (hn' : b.length ≤ 1048576) (hm : amps a ≤ 1048576) (hm' : amps b ≤ 1048576) :
    Calls Tryz.prog 100 #[v, u] w fun e w' => e = .returned (.bool (mtB a && mtB b && decide (a.length = b.length))) ∧ Below w.heap.size w w' := by
  have H1 := Lib.hid (ivalidMt P Q v a w hv ha hn hm)
  have H2 := Lib.hid (fun W (h : DSM W R S u b) => ivalidMt R S u b W h hb hn' hm')
  have Hu := Lib.hid hu
  obtain ⟨p, cap, rfl, hcap, -⟩ := hv
  obtain ⟨p', cap', rfl, hcap', -⟩ := hu
  by_cases hl : a.length = b.length
  · have hd : ((a.length : Int) == b.length) = true := by simp; omega
    rw [decide_eq_true hl, Bool.and_true]
    clear hl
    cases hA : mtB a with
    | false =>
      rw [hA] at H1
      go_enter Tryz.func100, Tryz.ntmps100
      go_wp2_with fail
      refine (H1.out).mono ?_
      rintro e w1 ⟨rfl, hb1⟩
      have Hb1 := Lib.hid hb1
      clear hb1
      go_wp2_with fail
      go_ret
      exact ⟨rfl, Hb1.out⟩
    | true =>
      rw [hA] at H1
      go_enter Tryz.func100, Tryz.ntmps100
      go_wp2_with fail
      refine (H1.out).mono ?_
      rintro e w1 ⟨rfl, hb1⟩
      have Hb1 := Lib.hid hb1
      have Hu1 := Lib.hid (Hu.out.below hb1)
      clear hb1
      go_wp2_with fail
      refine (H2.out _ Hu1.out).mono ?_
      rintro e w2 ⟨rfl, hb2⟩
      have Hb2 := Lib.hid (below_nx Hb1.out hb2)
      clear hb2
      go_wp2_with fail
      go_ret
      exact ⟨rfl, Hb2.out⟩
  · have hd : ((a.length : Int) == b.length) = false := by simp; omega
    rw [decide_eq_false hl, Bool.and_false]
    clear hl
    go_enter Tryz.func100, Tryz.ntmps100
    go_wp2_with fail
    go_ret
    exact ⟨rfl, Below.refl _ _⟩
end Go.Proofs.YtmpafidkpangeaaGreat
namespace Go.Proofs.YtmpafidkpangeaaGreat
open Go.RowKit
attribute [local irreducible] World.cell?
end Go.Proofs.YtmpafidkpangeaaGreat
