/- BaseB12: several of our texts in one: MtKc MtKb MtD. -/
import Derived.Test.YtggjbpgibdpflaaBaseB08
import Derived.Test.YtggjbpgibdpflaaDsKa
import Derived.Test.YtggjbpgibdpflaaDwN
namespace Go.Proofs.Ytggjbpgibdpflaa
open Go.RowKit
theorem idM_get {n : Int} (h : 1 ≤ n ∧ n ≤ 4) {j : Nat} (hj : j < 2 ^ n.toNat) : (idM n)[j]? = some (basisL n (j : Int)) := by
  rw [idM_yes h, List.getElem?_map, List.getElem?_range hj]; rfl
attribute [local irreducible] World.cell?
set_option maxRecDepth 100000 in
set_option maxHeartbeats 3200000 in
theorem iident1 (w : World) :
    Calls Try.prog 40 #[.int .i64 1] w fun e w' => ∃ u, e = .returned u ∧ DSM w' w.heap.size w'.heap.size u (idM 1) ∧ Below w.heap.size w w' := by
  obtain ⟨i0, hi, hz0, hz1, hz2⟩ := info_parts infoDs
  have Hq := Lib.hid (fun w => iisq_yes 1 w (by decide))
  have Hb0 := Lib.hid (fun (j : Nat) (hj : j < 2) w => ibasis 1 j w (by decide) (by decide) (by omega) (by omega))
  have HN := Lib.hid (fun (j : Nat) (hj : j < 2) => idM_get (n := 1) (by decide) (j := j) hj)
  have HNl := Lib.hid (show (idM 1).length = 2 from idM_len (by decide))
  generalize idM 1 = I at *
  go_enter Try.func40, Try.ntmps40
  go_wp2_with fail
  refine (Hq.out _).mono ?_
  rintro e w0 ⟨rfl, rfl⟩
  go_wp2_with (first | (at_make; refine wpList_make_full _ rfl _ _ 24 rfl w.heap.size 31 i0 (.slice none 0 0) 1 Try.underlying24 hi hz0 hz1 .i64 .i64 2 2 2 rfl rfl rfl rfl (by rw [hz2]; omega) (by unfold maxLen; omega) (Nat.le_refl _) ?_))
  intro w1 hown hgrow
  have hb1 : Below w.heap.size w w1 := (Below.refl _ _).grown hgrow (Nat.le_refl _) (fun k hk => by cases hk)
  have hrow1 : MRow w1 w.heap.size w1.heap.size w.heap.size (List.replicate 2 []) := by
    rcases hown.2 with ⟨h, _⟩ | ⟨g, cap, cur, hv, hb, hg, _, _, hs, ht⟩
    · cases h
    · obtain ⟨rfl, rfl⟩ : g = w.heap.size ∧ cap = 2 := by injection hv with hv _ hv2; injection hv with hv; injection hv with hv; exact ⟨hv.symm, hv2.symm⟩
      refine ⟨cur, _, hg, ?_, rows_nil (n := 2)⟩
      rw [List.length_replicate, ← made_slices 2]
      first | exact ht | simpa using ht
  rw [← HNl.out] at hrow1
  have Hb1 := Lib.hid hb1
  have Hrow1 := Lib.hid hrow1
  clear hown hgrow hb1 hrow1
  go_wp2_with fail
  go_loopg [13] 2 (fun n i wr => ∃ j : Nat, n = 2 - j ∧ j ≤ 2 ∧ i = .int .i64 j ∧ Hid (MRow wr w.heap.size wr.heap.size w.heap.size (I.take j ++ List.replicate (I.length - j) [])) ∧ Hid (Below w.heap.size w wr))
  case atStart => exact ⟨0, rfl, Nat.zero_le _, rfl, by simpa using Hrow1, Hb1⟩
  case round =>
    obtain ⟨j, rfl, hj, rfl, Hrow, Hb⟩ := hrel
    have hs := Hb.out.size
    by_cases hlt : j < 2
    · have hlt' : (j : Int) < 2 := by omega
      have Hst := Lib.hid (halfM_set (HN.out j hlt))
      have hjN : j < I.length := by have := HNl.out; omega
      have Hj := Lib.hid (fun w => Hb0.out j hlt w)
      generalize basisL 1 (j : Int) = r at *
      go_wp2_with fail
      refine (Hj.out _).mono ?_
      rintro e w2 ⟨v, rfl, hds, hb2⟩
      have hr2 := Hrow.out.block (hb2.block _ Hrow.out.lt) fun k _ _ hk => hb2.block k hk
      have f1 := fun o => hr2.free o
      obtain ⟨a9, c9, e0, -⟩ := hr2.cell (halfM_at hjN)
      have hgl := Nat.lt_of_lt_of_le Hrow.out.lt hb2.size
      have hr3 := Hrow.out.put (j := j) (by simp; omega) hds.upto hs hb2.size fun k hk => hb2.block k hk
      rw [Hst.out] at hr3
      have Hr3 := Lib.hid hr3
      have Hb2 := Lib.hid (Hb.out.trans (hb2.mono hs))
      obtain ⟨a2, cap3, rfl, _⟩ := hds
      clear hr3 hr2 hb2 Hrow Hj Hb0 HN
      go_wp2_with fail
      go_roundg (2 - (j + 1))
      case measure => omega
      case rel =>
        refine ⟨j + 1, rfl, by omega, by go_num, by simpa using Hr3, ?_⟩
        have := Hb2.out
        show Below _ _ _
        go_grown
    · obtain rfl : j = 2 := by omega
      have hrow := Hrow.out
      have HD := Lib.hid (show DSM wr w.heap.size wr.heap.size (.slice (some ⟨w.heap.size, 0, none⟩) 2 2) I from ⟨_, _, by rw [HNl.out], by rw [HNl.out]; exact Nat.le_refl _, fun _ => ⟨_, rfl, Nat.le_refl _, hrow.lt, by
        have h16 := hrow
        rw [← HNl.out, List.take_length, Nat.sub_self] at h16
        simpa using h16⟩⟩)
      clear hrow Hrow
      go_wp2_with fail
      go_ret
      exact ⟨_, rfl, HD.out, Hb.out⟩
set_option maxRecDepth 100000 in
set_option maxHeartbeats 3200000 in
theorem iident2 (w : World) :
    Calls Try.prog 40 #[.int .i64 2] w fun e w' => ∃ u, e = .returned u ∧ DSM w' w.heap.size w'.heap.size u (idM 2) ∧ Below w.heap.size w w' := by
  obtain ⟨i0, hi, hz0, hz1, hz2⟩ := info_parts infoDs
  have Hq := Lib.hid (fun w => iisq_yes 2 w (by decide))
  have Hb0 := Lib.hid (fun (j : Nat) (hj : j < 4) w => ibasis 2 j w (by decide) (by decide) (by omega) (by omega))
  have HN := Lib.hid (fun (j : Nat) (hj : j < 4) => idM_get (n := 2) (by decide) (j := j) hj)
  have HNl := Lib.hid (show (idM 2).length = 4 from idM_len (by decide))
  generalize idM 2 = I at *
  go_enter Try.func40, Try.ntmps40
  go_wp2_with fail
  refine (Hq.out _).mono ?_
  rintro e w0 ⟨rfl, rfl⟩
  go_wp2_with (first | (at_make; refine wpList_make_full _ rfl _ _ 24 rfl w.heap.size 31 i0 (.slice none 0 0) 1 Try.underlying24 hi hz0 hz1 .i64 .i64 4 4 4 rfl rfl rfl rfl (by rw [hz2]; omega) (by unfold maxLen; omega) (Nat.le_refl _) ?_))
  intro w1 hown hgrow
  have hb1 : Below w.heap.size w w1 := (Below.refl _ _).grown hgrow (Nat.le_refl _) (fun k hk => by cases hk)
  have hrow1 : MRow w1 w.heap.size w1.heap.size w.heap.size (List.replicate 4 []) := by
    rcases hown.2 with ⟨h, _⟩ | ⟨g, cap, cur, hv, hb, hg, _, _, hs, ht⟩
    · cases h
    · obtain ⟨rfl, rfl⟩ : g = w.heap.size ∧ cap = 4 := by injection hv with hv _ hv2; injection hv with hv; injection hv with hv; exact ⟨hv.symm, hv2.symm⟩
      refine ⟨cur, _, hg, ?_, rows_nil (n := 4)⟩
      rw [List.length_replicate, ← made_slices 4]
      first | exact ht | simpa using ht
  rw [← HNl.out] at hrow1
  have Hb1 := Lib.hid hb1
  have Hrow1 := Lib.hid hrow1
  clear hown hgrow hb1 hrow1
  go_wp2_with fail
  go_loopg [13] 4 (fun n i wr => ∃ j : Nat, n = 4 - j ∧ j ≤ 4 ∧ i = .int .i64 j ∧ Hid (MRow wr w.heap.size wr.heap.size w.heap.size (I.take j ++ List.replicate (I.length - j) [])) ∧ Hid (Below w.heap.size w wr))
  case atStart => exact ⟨0, rfl, Nat.zero_le _, rfl, by simpa using Hrow1, Hb1⟩
  case round =>
    obtain ⟨j, rfl, hj, rfl, Hrow, Hb⟩ := hrel
    have hs := Hb.out.size
    by_cases hlt : j < 4
    · have hlt' : (j : Int) < 4 := by omega
      have Hst := Lib.hid (halfM_set (HN.out j hlt))
      have hjN : j < I.length := by have := HNl.out; omega
      have Hj := Lib.hid (fun w => Hb0.out j hlt w)
      generalize basisL 2 (j : Int) = r at *
      go_wp2_with fail
      refine (Hj.out _).mono ?_
      rintro e w2 ⟨v, rfl, hds, hb2⟩
      have hr2 := Hrow.out.block (hb2.block _ Hrow.out.lt) fun k _ _ hk => hb2.block k hk
      have f1 := fun o => hr2.free o
      obtain ⟨a9, c9, e0, -⟩ := hr2.cell (halfM_at hjN)
      have hgl := Nat.lt_of_lt_of_le Hrow.out.lt hb2.size
      have hr3 := Hrow.out.put (j := j) (by simp; omega) hds.upto hs hb2.size fun k hk => hb2.block k hk
      rw [Hst.out] at hr3
      have Hr3 := Lib.hid hr3
      have Hb2 := Lib.hid (Hb.out.trans (hb2.mono hs))
      obtain ⟨a2, cap3, rfl, _⟩ := hds
      clear hr3 hr2 hb2 Hrow Hj Hb0 HN
      go_wp2_with fail
      go_roundg (4 - (j + 1))
      case measure => omega
      case rel =>
        refine ⟨j + 1, rfl, by omega, by go_num, by simpa using Hr3, ?_⟩
        have := Hb2.out
        show Below _ _ _
        go_grown
    · obtain rfl : j = 4 := by omega
      have hrow := Hrow.out
      have HD := Lib.hid (show DSM wr w.heap.size wr.heap.size (.slice (some ⟨w.heap.size, 0, none⟩) 4 4) I from ⟨_, _, by rw [HNl.out], by rw [HNl.out]; exact Nat.le_refl _, fun _ => ⟨_, rfl, Nat.le_refl _, hrow.lt, by
        have h16 := hrow
        rw [← HNl.out, List.take_length, Nat.sub_self] at h16
        simpa using h16⟩⟩)
      clear hrow Hrow
      go_wp2_with fail
      go_ret
      exact ⟨_, rfl, HD.out, Hb.out⟩
set_option maxRecDepth 100000 in
set_option maxHeartbeats 3200000 in
theorem iident3 (w : World) :
    Calls Try.prog 40 #[.int .i64 3] w fun e w' => ∃ u, e = .returned u ∧ DSM w' w.heap.size w'.heap.size u (idM 3) ∧ Below w.heap.size w w' := by
  obtain ⟨i0, hi, hz0, hz1, hz2⟩ := info_parts infoDs
  have Hq := Lib.hid (fun w => iisq_yes 3 w (by decide))
  have Hb0 := Lib.hid (fun (j : Nat) (hj : j < 8) w => ibasis 3 j w (by decide) (by decide) (by omega) (by omega))
  have HN := Lib.hid (fun (j : Nat) (hj : j < 8) => idM_get (n := 3) (by decide) (j := j) hj)
  have HNl := Lib.hid (show (idM 3).length = 8 from idM_len (by decide))
  generalize idM 3 = I at *
  go_enter Try.func40, Try.ntmps40
  go_wp2_with fail
  refine (Hq.out _).mono ?_
  rintro e w0 ⟨rfl, rfl⟩
  go_wp2_with (first | (at_make; refine wpList_make_full _ rfl _ _ 24 rfl w.heap.size 31 i0 (.slice none 0 0) 1 Try.underlying24 hi hz0 hz1 .i64 .i64 8 8 8 rfl rfl rfl rfl (by rw [hz2]; omega) (by unfold maxLen; omega) (Nat.le_refl _) ?_))
  intro w1 hown hgrow
  have hb1 : Below w.heap.size w w1 := (Below.refl _ _).grown hgrow (Nat.le_refl _) (fun k hk => by cases hk)
  have hrow1 : MRow w1 w.heap.size w1.heap.size w.heap.size (List.replicate 8 []) := by
    rcases hown.2 with ⟨h, _⟩ | ⟨g, cap, cur, hv, hb, hg, _, _, hs, ht⟩
    · cases h
    · obtain ⟨rfl, rfl⟩ : g = w.heap.size ∧ cap = 8 := by injection hv with hv _ hv2; injection hv with hv; injection hv with hv; exact ⟨hv.symm, hv2.symm⟩
      refine ⟨cur, _, hg, ?_, rows_nil (n := 8)⟩
      rw [List.length_replicate, ← made_slices 8]
      first | exact ht | simpa using ht
  rw [← HNl.out] at hrow1
  have Hb1 := Lib.hid hb1
  have Hrow1 := Lib.hid hrow1
  clear hown hgrow hb1 hrow1
  go_wp2_with fail
  go_loopg [13] 8 (fun n i wr => ∃ j : Nat, n = 8 - j ∧ j ≤ 8 ∧ i = .int .i64 j ∧ Hid (MRow wr w.heap.size wr.heap.size w.heap.size (I.take j ++ List.replicate (I.length - j) [])) ∧ Hid (Below w.heap.size w wr))
  case atStart => exact ⟨0, rfl, Nat.zero_le _, rfl, by simpa using Hrow1, Hb1⟩
  case round =>
    obtain ⟨j, rfl, hj, rfl, Hrow, Hb⟩ := hrel
    have hs := Hb.out.size
    by_cases hlt : j < 8
    · have hlt' : (j : Int) < 8 := by omega
      have Hst := Lib.hid (halfM_set (HN.out j hlt))
      have hjN : j < I.length := by have := HNl.out; omega
      have Hj := Lib.hid (fun w => Hb0.out j hlt w)
      generalize basisL 3 (j : Int) = r at *
      go_wp2_with fail
      refine (Hj.out _).mono ?_
      rintro e w2 ⟨v, rfl, hds, hb2⟩
      have hr2 := Hrow.out.block (hb2.block _ Hrow.out.lt) fun k _ _ hk => hb2.block k hk
      have f1 := fun o => hr2.free o
      obtain ⟨a9, c9, e0, -⟩ := hr2.cell (halfM_at hjN)
      have hgl := Nat.lt_of_lt_of_le Hrow.out.lt hb2.size
      have hr3 := Hrow.out.put (j := j) (by simp; omega) hds.upto hs hb2.size fun k hk => hb2.block k hk
      rw [Hst.out] at hr3
      have Hr3 := Lib.hid hr3
      have Hb2 := Lib.hid (Hb.out.trans (hb2.mono hs))
      obtain ⟨a2, cap3, rfl, _⟩ := hds
      clear hr3 hr2 hb2 Hrow Hj Hb0 HN
      go_wp2_with fail
      go_roundg (8 - (j + 1))
      case measure => omega
      case rel =>
        refine ⟨j + 1, rfl, by omega, by go_num, by simpa using Hr3, ?_⟩
        have := Hb2.out
        show Below _ _ _
        go_grown
    · obtain rfl : j = 8 := by omega
      have hrow := Hrow.out
      have HD := Lib.hid (show DSM wr w.heap.size wr.heap.size (.slice (some ⟨w.heap.size, 0, none⟩) 8 8) I from ⟨_, _, by rw [HNl.out], by rw [HNl.out]; exact Nat.le_refl _, fun _ => ⟨_, rfl, Nat.le_refl _, hrow.lt, by
        have h16 := hrow
        rw [← HNl.out, List.take_length, Nat.sub_self] at h16
        simpa using h16⟩⟩)
      clear hrow Hrow
      go_wp2_with fail
      go_ret
      exact ⟨_, rfl, HD.out, Hb.out⟩
set_option maxRecDepth 100000 in
set_option maxHeartbeats 3200000 in
theorem iident4 (w : World) :
    Calls Try.prog 40 #[.int .i64 4] w fun e w' => ∃ u, e = .returned u ∧ DSM w' w.heap.size w'.heap.size u (idM 4) ∧ Below w.heap.size w w' := by
  obtain ⟨i0, hi, hz0, hz1, hz2⟩ := info_parts infoDs
  have Hq := Lib.hid (fun w => iisq_yes 4 w (by decide))
  have Hb0 := Lib.hid (fun (j : Nat) (hj : j < 16) w => ibasis 4 j w (by decide) (by decide) (by omega) (by omega))
  have HN := Lib.hid (fun (j : Nat) (hj : j < 16) => idM_get (n := 4) (by decide) (j := j) hj)
  have HNl := Lib.hid (show (idM 4).length = 16 from idM_len (by decide))
  generalize idM 4 = I at *
  go_enter Try.func40, Try.ntmps40
  go_wp2_with fail
  refine (Hq.out _).mono ?_
  rintro e w0 ⟨rfl, rfl⟩
  go_wp2_with (first | (at_make; refine wpList_make_full _ rfl _ _ 24 rfl w.heap.size 31 i0 (.slice none 0 0) 1 Try.underlying24 hi hz0 hz1 .i64 .i64 16 16 16 rfl rfl rfl rfl (by rw [hz2]; omega) (by unfold maxLen; omega) (Nat.le_refl _) ?_))
  intro w1 hown hgrow
  have hb1 : Below w.heap.size w w1 := (Below.refl _ _).grown hgrow (Nat.le_refl _) (fun k hk => by cases hk)
  have hrow1 : MRow w1 w.heap.size w1.heap.size w.heap.size (List.replicate 16 []) := by
    rcases hown.2 with ⟨h, _⟩ | ⟨g, cap, cur, hv, hb, hg, _, _, hs, ht⟩
    · cases h
    · obtain ⟨rfl, rfl⟩ : g = w.heap.size ∧ cap = 16 := by injection hv with hv _ hv2; injection hv with hv; injection hv with hv; exact ⟨hv.symm, hv2.symm⟩
      refine ⟨cur, _, hg, ?_, rows_nil (n := 16)⟩
      rw [List.length_replicate, ← made_slices 16]
      first | exact ht | simpa using ht
  rw [← HNl.out] at hrow1
  have Hb1 := Lib.hid hb1
  have Hrow1 := Lib.hid hrow1
  clear hown hgrow hb1 hrow1
  go_wp2_with fail
  go_loopg [13] 16 (fun n i wr => ∃ j : Nat, n = 16 - j ∧ j ≤ 16 ∧ i = .int .i64 j ∧ Hid (MRow wr w.heap.size wr.heap.size w.heap.size (I.take j ++ List.replicate (I.length - j) [])) ∧ Hid (Below w.heap.size w wr))
  case atStart => exact ⟨0, rfl, Nat.zero_le _, rfl, by simpa using Hrow1, Hb1⟩
  case round =>
    obtain ⟨j, rfl, hj, rfl, Hrow, Hb⟩ := hrel
    have hs := Hb.out.size
    by_cases hlt : j < 16
    · have hlt' : (j : Int) < 16 := by omega
      have Hst := Lib.hid (halfM_set (HN.out j hlt))
      have hjN : j < I.length := by have := HNl.out; omega
      have Hj := Lib.hid (fun w => Hb0.out j hlt w)
      generalize basisL 4 (j : Int) = r at *
      go_wp2_with fail
      refine (Hj.out _).mono ?_
      rintro e w2 ⟨v, rfl, hds, hb2⟩
      have hr2 := Hrow.out.block (hb2.block _ Hrow.out.lt) fun k _ _ hk => hb2.block k hk
      have f1 := fun o => hr2.free o
      obtain ⟨a9, c9, e0, -⟩ := hr2.cell (halfM_at hjN)
      have hgl := Nat.lt_of_lt_of_le Hrow.out.lt hb2.size
      have hr3 := Hrow.out.put (j := j) (by simp; omega) hds.upto hs hb2.size fun k hk => hb2.block k hk
      rw [Hst.out] at hr3
      have Hr3 := Lib.hid hr3
      have Hb2 := Lib.hid (Hb.out.trans (hb2.mono hs))
      obtain ⟨a2, cap3, rfl, _⟩ := hds
      clear hr3 hr2 hb2 Hrow Hj Hb0 HN
      go_wp2_with fail
      go_roundg (16 - (j + 1))
      case measure => omega
      case rel =>
        refine ⟨j + 1, rfl, by omega, by go_num, by simpa using Hr3, ?_⟩
        have := Hb2.out
        show Below _ _ _
        go_grown
    · obtain rfl : j = 16 := by omega
      have hrow := Hrow.out
      have HD := Lib.hid (show DSM wr w.heap.size wr.heap.size (.slice (some ⟨w.heap.size, 0, none⟩) 16 16) I from ⟨_, _, by rw [HNl.out], by rw [HNl.out]; exact Nat.le_refl _, fun _ => ⟨_, rfl, Nat.le_refl _, hrow.lt, by
        have h16 := hrow
        rw [← HNl.out, List.take_length, Nat.sub_self] at h16
        simpa using h16⟩⟩)
      clear hrow Hrow
      go_wp2_with fail
      go_ret
      exact ⟨_, rfl, HD.out, Hb.out⟩
theorem iident (n : Int) (w : World) (n0 : -9223372036854775808 ≤ n) (n1 : n ≤ 9223372036854775807) :
    Calls Try.prog 40 #[.int .i64 n] w fun e w' => ∃ v, e = .returned v ∧ DSM w' w.heap.size w'.heap.size v (idM n) ∧ Below w.heap.size w w' := by
  by_cases h : 1 ≤ n ∧ n ≤ 4
  · rcases (show n = 1 ∨ n = 2 ∨ n = 3 ∨ n = 4 by omega) with rfl | rfl | rfl | rfl
    · exact iident1 w
    · exact iident2 w
    · exact iident3 w
    · exact iident4 w
  · rw [idM_no h]
    have Hq := Lib.hid (fun w => iisq_no n w h n0 n1)
    clear h n0 n1
    go_enter Try.func40, Try.ntmps40
    go_wp2_with fail
    refine (Hq.out _).mono ?_
    rintro e w0 ⟨rfl, rfl⟩
    go_wp2_with fail
    go_ret
    exact ⟨_, rfl, DSM.nil, Below.refl _ _⟩
end Go.Proofs.Ytggjbpgibdpflaa
namespace Go.Proofs.Ytggjbpgibdpflaa
open Go.RowKit
attribute [local irreducible] World.cell?
set_option maxRecDepth 100000 in
set_option maxHeartbeats 1600000 in
theorem ivalidMt (B C : Nat) (v : Value) (M : List (List Dw)) (w : World) (hv : DSM w B C v M) (he : EbM M) (hn : M.length ≤ 1048576) (hm : amps M ≤ 1048576) :
    Calls Try.prog 29 #[v] w fun e w' => e = .returned (.bool (mtB M)) ∧ Below w.heap.size w w' := by
  obtain ⟨a, cap, rfl, hcap, hr⟩ := hv
  have Hr := Lib.hid hr
  have HeM := Lib.hid he
  clear hr he
  obtain ⟨R, hR⟩ : ∃ R, R = mtB M := ⟨_, rfl⟩
  rw [← hR]
  have HR := Lib.hid hR
  clear hR
  go_enter Try.func29, Try.ntmps29
  go_wp2_with fail
  go_loopg [7] M.length (fun k i wr => ∃ j : Nat, k = M.length - j ∧ j ≤ M.length ∧ i = .int .i64 j ∧ Hid ((M.take j).all (fun r => decide (r.length = M.length) && stB r) = true) ∧ Hid (Below w.heap.size w wr))
  case atStart => exact ⟨0, rfl, Nat.zero_le _, rfl, rfl, Below.refl _ _⟩
  case round =>
    obtain ⟨j, rfl, hj, rfl, Hall, Hb⟩ := hrel
    by_cases hlt : j < M.length
    · obtain ⟨g, rfl, _, _, hrow⟩ := Hr.out (by omega)
      obtain ⟨r, hr⟩ : ∃ r, M[j]? = some r := ⟨M[j], List.getElem?_eq_getElem hlt⟩
      have r1 := hrow.block (Hb.out.block _ hrow.lt) fun k _ _ hk => Hb.out.block k hk
      obtain ⟨p, pc, c0, hd1⟩ := r1.cell hr
      have Hd1 := Lib.hid hd1.dsl
      have Hat := Lib.hid (all_take (p := fun r => decide (r.length = M.length) && stB r) hr Hall.out)
      have Hno := Lib.hid (fun h => all_no (p := fun r => decide (r.length = M.length) && stB r) hr h)
      have He := Lib.hid (fun W (h1 : DSl W B (.slice p r.length pc) r) => ivalidSt B (.slice p r.length pc) r W h1 (HeM.out r (List.mem_of_getElem? hr)) (by have := amps_row hr; omega))
      have hrl := amps_row hr
      clear hd1 r1 hrow hr
      by_cases hlen : r.length = M.length
      · rw [hlen] at c0 He Hd1
        have Hlen := Lib.hid hlen
        clear hlen hrl
        have hd2 : ((M.length : Int) != M.length) = false := by simp
        cases hs : stB r with
        | false =>
          have hS : mtB M = false := by unfold mtB; rw [Hno.out (by rw [hs]; simp)]; simp
          obtain rfl : R = false := HR.out.trans hS
          rw [hs] at He
          go_wp2_with fail
          refine (He.out _ Hd1.out).mono ?_
          rintro e w2 ⟨rfl, hb2⟩
          have Hb2 := Lib.hid (below_up Hb.out hb2 Hb.out.size)
          clear hb2
          go_wp2_with fail
          go_ret
          exact ⟨rfl, Hb2.out⟩
        | true =>
          rw [hs] at He
          go_wp2_with fail
          refine (He.out _ Hd1.out).mono ?_
          rintro e w2 ⟨rfl, hb2⟩
          have Hb2 := Lib.hid (below_up Hb.out hb2 Hb.out.size)
          clear hb2
          go_wp2_with fail
          go_roundg (M.length - (j + 1))
          case measure => omega
          case rel => exact ⟨j + 1, rfl, by omega, by go_num, Lib.hid (by rw [Hat.out, hs, decide_eq_true Hlen.out]; rfl), Hb2⟩
      · have hS : mtB M = false := by unfold mtB; rw [Hno.out (by rw [decide_eq_false hlen]; rfl)]; simp
        obtain rfl : R = false := HR.out.trans hS
        have hd : ((r.length : Int) != (M.length : Int)) = true := by simp; omega
        go_wp2_with fail
        go_ret
        exact ⟨rfl, Hb.out⟩
    · obtain rfl : j = M.length := by omega
      have hall := Hall.out
      rw [List.take_length] at hall
      have hS : mtB M = decide (0 < M.length) := by unfold mtB; rw [hall, Bool.and_true]
      by_cases h0 : 0 < M.length
      · obtain rfl : R = true := HR.out.trans (hS.trans (decide_eq_true h0))
        go_wp2_with fail
        go_returns
        exact ⟨by simp <;> omega, Hb.out⟩
      · obtain rfl : R = false := HR.out.trans (hS.trans (decide_eq_false h0))
        go_wp2_with fail
        go_returns
        exact ⟨by simp <;> omega, Hb.out⟩
set_option maxRecDepth 100000 in
set_option maxHeartbeats 1600000 in
theorem iefM (B C D E : Nat) (v u : Value) (M N : List (List Dw)) (w : World) (hv : DSM w B C v M) (hu : DSM w D E u N) (hn : M.length ≤ 1048576) (_ : N.length ≤ 1048576) (hm : amps M ≤ 1048576) (hm' : amps N ≤ 1048576) :
    Calls Try.prog 87 #[v, u, .func (.func 63) #[] #[]] w fun e w' => e = .returned (.bool (decide (M = N))) ∧ Below w.heap.size w w' := by
  obtain ⟨a, cap, rfl, hcap, hr⟩ := hv
  obtain ⟨a', cap', rfl, hcap', hr'⟩ := hu
  have Hr := Lib.hid hr
  have Hr' := Lib.hid hr'
  clear hr hr'
  by_cases hl : M.length = N.length
  · obtain ⟨R, hR⟩ : ∃ R, R = decide (M = N) := ⟨_, rfl⟩
    rw [← hR]
    have HR := Lib.hid hR
    clear hR
    rw [← hl] at Hr' hcap' ⊢
    have Hl := Lib.hid hl
    clear hl
    have hd2 : ((M.length : Int) != M.length) = false := by simp
    go_enter Try.func87, Try.ntmps87
    go_wp2_with fail
    go_loopg [17] M.length (fun k i wr => ∃ j : Nat, k = M.length - j ∧ j ≤ M.length ∧ i = .int .i64 j ∧ Hid (M.take j = N.take j) ∧ Hid (Below w.heap.size w wr))
    case atStart => exact ⟨0, rfl, Nat.zero_le _, rfl, rfl, Below.refl _ _⟩
    case round =>
      obtain ⟨j, rfl, hj, rfl, Heq, Hb⟩ := hrel
      by_cases hlt : j < M.length
      · obtain ⟨g, rfl, _, _, hrow⟩ := Hr.out (by omega)
        obtain ⟨g', rfl, _, _, hrow'⟩ := Hr'.out (by omega)
        obtain ⟨x, hx⟩ : ∃ r, M[j]? = some r := ⟨M[j], List.getElem?_eq_getElem hlt⟩
        obtain ⟨y, hy⟩ : ∃ r, N[j]? = some r := ⟨N[j]'(by have := Hl.out; omega), List.getElem?_eq_getElem _⟩
        have r1 := hrow.block (Hb.out.block _ hrow.lt) fun k _ _ hk => Hb.out.block k hk
        have r2 := hrow'.block (Hb.out.block _ hrow'.lt) fun k _ _ hk => Hb.out.block k hk
        obtain ⟨p, pc, c0, hd1⟩ := r1.cell hx
        obtain ⟨q, qc, c1, hd2⟩ := r2.cell hy
        have hgl := r1.lt
        have hgl' := r2.lt
        have Hx := Lib.hid hx
        have Hy := Lib.hid hy
        have He := Lib.hid (fun W (h1 : Hid (DSl W B (.slice p x.length pc) x)) (h2 : Hid (DSl W D (.slice q y.length qc) y)) => iequalSt B D (.slice p x.length pc) (.slice q y.length qc) x y W h1.out h2.out (by have := amps_row hx; omega) (by have := amps_row hy; omega))
        have Hd1 := Lib.hid hd1.dsl
        have Hd2 := Lib.hid hd2.dsl
        clear hd1 hd2 r1 r2 hrow hrow' hx hy
        by_cases hxy : x = y
        · rw [decide_eq_true hxy] at He
          have Hxy := Lib.hid hxy
          clear hxy
          go_wp2_with fail
          refine (He.out _ Hd1 Hd2).mono ?_
          rintro e wR ⟨rfl, hbR⟩
          have Hb2 := Lib.hid (below_up Hb.out hbR Hb.out.size)
          go_wp2_with fail
          go_roundg (M.length - (j + 1))
          case measure => omega
          case rel => exact ⟨j + 1, rfl, by omega, by go_num, Lib.hid (eq_takeM Hx.out Hy.out Heq.out Hxy.out), Hb2⟩
        · rw [decide_eq_false hxy] at He
          have hF : M ≠ N := fun h => hxy (by have h1 := Hx.out; rw [h, Hy.out] at h1; injection h1 with h1; exact h1.symm)
          obtain rfl : R = false := HR.out.trans (decide_eq_false hF)
          clear hF hxy
          go_wp2_with fail
          refine (He.out _ Hd1 Hd2).mono ?_
          rintro e wR ⟨rfl, hbR⟩
          have Hb2 := Lib.hid (below_up Hb.out hbR Hb.out.size)
          go_wp2_with fail
          go_ret
          exact ⟨rfl, Hb2.out⟩
      · obtain rfl : j = M.length := by omega
        have heq := Heq.out
        rw [List.take_length, Hl.out, List.take_length] at heq
        obtain rfl : R = true := HR.out.trans (decide_eq_true heq)
        go_wp2_with fail
        go_ret
        exact ⟨rfl, Hb.out⟩
  · rw [decide_eq_false (fun h => hl (by rw [h]))]
    have hd2 : ((M.length : Int) != N.length) = true := by simp; omega
    go_enter Try.func87, Try.ntmps87
    go_wp2_with fail
    go_ret
    exact ⟨rfl, Below.refl _ _⟩
set_option maxRecDepth 100000 in
set_option maxHeartbeats 1600000 in
theorem iequalMt (P Q R S : Nat) (v u : Value) (A B : List (List Dw)) (w : World) (hv : DSM w P Q v A) (hu : DSM w R S u B) (hn : A.length ≤ 1048576) (hn' : B.length ≤ 1048576) (hm : amps A ≤ 1048576) (hm' : amps B ≤ 1048576) :
    Calls Try.prog 51 #[v, u] w fun e w' => e = .returned (.bool (decide (A = B))) ∧ Below w.heap.size w w' := by
  have H1 := Lib.hid (iefM P Q R S v u A B w hv hu hn hn' hm hm')
  generalize decide (A = B) = T at *
  clear hv hu hn hn' hm hm'
  go_enter Try.func51, Try.ntmps51
  go_wp2_with fail
  refine (H1.out).mono ?_
  rintro e w1 ⟨rfl, hb1⟩
  have Hb1 := Lib.hid hb1
  clear hb1
  go_wp2_with fail
  go_ret
  exact ⟨rfl, Hb1.out⟩
set_option maxRecDepth 100000 in
set_option maxHeartbeats 1600000 in
theorem iareM (P Q R S : Nat) (v u : Value) (a b : List (List Dw)) (w : World) (hv : DSM w P Q v a) (hu : DSM w R S u b) (ha : EbM a) (hb : EbM b) (hn : a.length ≤ 1048576) (hn' : b.length ≤ 1048576) (hm : amps a ≤ 1048576) (hm' : amps b ≤ 1048576) :
    Calls Try.prog 70 #[v, u] w fun e w' => e = .returned (.bool (mtB a && mtB b && decide (a.length = b.length))) ∧ Below w.heap.size w w' := by
  have H1 := Lib.hid (ivalidMt P Q v a w hv ha hn hm)
  have H2 := Lib.hid (fun W (h : DSM W R S u b) => ivalidMt R S u b W h hb hn' hm')
  have Hu := Lib.hid hu
  obtain ⟨p, cap, rfl, hcap, -⟩ := hv
  obtain ⟨p', cap', rfl, hcap', -⟩ := hu
  by_cases hl : a.length = b.length
  · have hd : ((a.length : Int) == b.length) = true := by simp; omega
    rw [decide_eq_true hl, Bool.and_true]
    clear hl
    cases hA : mtB a with
    | false =>
      rw [hA] at H1
      go_enter Try.func70, Try.ntmps70
      go_wp2_with fail
      refine (H1.out).mono ?_
      rintro e w1 ⟨rfl, hb1⟩
      have Hb1 := Lib.hid hb1
      clear hb1
      go_wp2_with fail
      go_ret
      exact ⟨rfl, Hb1.out⟩
    | true =>
      rw [hA] at H1
      go_enter Try.func70, Try.ntmps70
      go_wp2_with fail
      refine (H1.out).mono ?_
      rintro e w1 ⟨rfl, hb1⟩
      have Hb1 := Lib.hid hb1
      have Hu1 := Lib.hid (Hu.out.below hb1)
      clear hb1
      go_wp2_with fail
      refine (H2.out _ Hu1.out).mono ?_
      rintro e w2 ⟨rfl, hb2⟩
      have Hb2 := Lib.hid (below_nx Hb1.out hb2)
      clear hb2
      go_wp2_with fail
      go_ret
      exact ⟨rfl, Hb2.out⟩
  · have hd : ((a.length : Int) == b.length) = false := by simp; omega
    rw [decide_eq_false hl, Bool.and_false]
    clear hl
    go_enter Try.func70, Try.ntmps70
    go_wp2_with fail
    go_ret
    exact ⟨rfl, Below.refl _ _⟩
end Go.Proofs.Ytggjbpgibdpflaa
namespace Go.Proofs.Ytggjbpgibdpflaa
open Go.RowKit
theorem adjM_yes {M : List (List Dw)} (h : mtB M = true) : adjM M = (List.range M.length).map fun i => (col M i).map dConjV := if_pos h
theorem adjM_no {M : List (List Dw)} (h : mtB M = false) : adjM M = [] := if_neg (by rw [h]; decide)
theorem adjM_len {M : List (List Dw)} (h : mtB M = true) : (adjM M).length = M.length := by rw [adjM_yes h, List.length_map, List.length_range]
theorem adjM_step {M : List (List Dw)} (h : mtB M = true) {j : Nat} (hj : j < M.length) : (adjM M).take (j + 1) = (adjM M).take j ++ [(col M j).map dConjV] := by
  rw [List.take_add_one, adjM_yes h, List.getElem?_map, List.getElem?_range hj]
  rfl
theorem turn_at {l : List Dw} {f : Dw → Dw} {k : Nat} {x : Dw} (hx : l[k]? = some x) : ((l.map f).take k ++ l.drop k)[k]? = some x := by
  have h : k < l.length := by
    rcases Nat.lt_or_ge k l.length with h' | h'
    · exact h'
    · rw [List.getElem?_eq_none h'] at hx; cases hx
  rw [List.getElem?_append_right (by simp; omega), List.getElem?_drop]
  rw [show k + (k - ((l.map f).take k).length) = k by simp; omega]
  exact hx
theorem turn_set {l : List Dw} {f : Dw → Dw} {k : Nat} {x : Dw} (hx : l[k]? = some x) : ((l.map f).take k ++ l.drop k).set k (f x) = (l.map f).take (k + 1) ++ l.drop (k + 1) := by
  have h : k < l.length := by
    rcases Nat.lt_or_ge k l.length with h' | h'
    · exact h'
    · rw [List.getElem?_eq_none h'] at hx; cases hx
  have e : l.drop k = x :: l.drop (k + 1) := by
    rw [List.getElem?_eq_getElem h] at hx
    injection hx with hx
    rw [← hx]
    exact (List.getElem_cons_drop ..).symm
  rw [List.set_append_right _ _ (by simp; omega), show k - ((l.map f).take k).length = 0 by simp; omega, e, List.set_cons_zero, List.take_add_one, List.getElem?_map, hx, List.append_assoc]
  rfl
attribute [local irreducible] World.cell?
set_option maxRecDepth 100000 in
set_option maxHeartbeats 3200000 in
theorem sadj_yes (B C : Nat) (v : Value) (M : List (List Dw)) (w : World) (hv : DSM w B C v M) (hM : mtB M = true) (hm : amps M ≤ 1048576) :
    Calls Try.prog 31 #[v] w fun e w' => ∃ u, e = .returned u ∧ DSM w' w.heap.size w'.heap.size u (adjM M) ∧ Below w.heap.size w w' := by
  obtain ⟨i0, hi, hz0, hz1, hz2⟩ := info_parts infoDs
  have hlen := mtB_len hM
  have Hv := Lib.hid hv
  have H1 := Lib.hid (fun W (h : DSM W B C v M) => svalidMt B C v M W h (by omega) hm)
  rw [hM] at H1
  have Hcol := Lib.hid (fun (k : Nat) (hk : k < M.length) W (h : DSM W B C v M) => scolumn B C v M k W h (fun r hr => by rw [((mtB_iff.1 hM).2 r hr).1]; exact hk) (by omega) (by omega))
  have Hst := Lib.hid (fun (j : Nat) (hj : j < M.length) => adjM_step hM hj)
  have Hl := Lib.hid (adjM_len hM)
  clear hM
  obtain ⟨a, cap, rfl, hcap, -⟩ := hv
  go_enter Try.func31, Try.ntmps31
  go_wp2_with fail
  go_loopg [3, 4] M.length (fun n out i wr => ∃ (j : Nat) (vs : List Value), n = M.length - j ∧ j ≤ M.length ∧ i = .int .i64 j ∧ Hid (wr.ownsRow w.heap.size 31 1 out j vs) ∧ Hid (RwS wr w.heap.size wr.heap.size vs ((adjM M).take j)) ∧ Hid (Below w.heap.size w wr))
  case atStart => exact ⟨0, [], rfl, Nat.zero_le _, rfl, ownM_new rfl, RwS.nil, (Below.refl _ _).alloc (Nat.le_refl _) _⟩
  case round =>
    obtain ⟨j, vs, rfl, hj, rfl, Hown, Hrows, Hb⟩ := hrel
    have hs := Hb.out.size
    have H1r := Lib.hid (H1.out wr (Hv.out.block fun k _ _ hk => Hb.out.block k hk))
    by_cases hlt : j < M.length
    · go_wp2_with fail
      refine (H1r.out).mono ?_
      rintro e w2 ⟨rfl, hb2⟩
      have Hv2 := Lib.hid (Hv.out.block fun k _ _ hk => (hb2.block k (by omega)).trans (Hb.out.block k hk))
      have Hown2 := Lib.hid (row_below Hown.out hb2)
      have Hrows2 := Lib.hid ((Hrows.out.block fun k _ _ hk => hb2.block k hk).mono (Nat.le_refl _) hb2.size)
      have Hb2 := Lib.hid (Hb.out.trans (hb2.mono hs))
      have hs2 := Hb2.out.size
      have Hc := Lib.hid (Hcol.out j hlt w2 Hv2.out)
      clear hb2 Hown Hrows Hb H1r Hv2
      go_wp2_with fail
      refine (Hc.out).mono ?_
      rintro e w3 ⟨u, rfl, hd, hb3⟩
      have hcl := col_len M j
      have Hst2 := Lib.hid (Hst.out j hlt)
      generalize col M j = c at *
      obtain ⟨p, pc, rfl, hpc, hd2⟩ := hd
      obtain ⟨g, rfl, hgB, hrow⟩ := hd2 (by omega)
      rw [hcl] at hpc ⊢
      have Hrow := Lib.hid hrow
      have Hb3 := Lib.hid hb3
      have hs3 := hb3.size
      have Hcl := Lib.hid hcl
      clear hd2 hrow hb3 Hc hcl
      go_wp2_with fail
      go_loopg [6] M.length (fun n i wr => ∃ k : Nat, n = M.length - k ∧ k ≤ M.length ∧ i = .int .i64 k ∧ Hid (DRow wr g ((c.map dConjV).take k ++ c.drop k)) ∧ Hid (Below w2.heap.size w2 wr))
      case atStart => exact ⟨0, rfl, Nat.zero_le _, rfl, by simpa using Hrow, Hb3⟩
      case round =>
        obtain ⟨k, rfl, hk, rfl, Hri, Hbi⟩ := hrel
        have hsi := Hbi.out.size
        by_cases hlk : k < M.length
        · obtain ⟨x, hx⟩ : ∃ x, c[k]? = some x := ⟨c[k]'(by have := Hcl.out; omega), List.getElem?_eq_getElem _⟩
          have hgl := Hri.out.lt
          obtain ⟨c0, c1, c2, c3, c4⟩ := Hri.out.cells (turn_at (f := dConjV) hx)
          have Hx := Lib.hid (sconjD_any x wr)
          have Hcl2 := Hcl.out
          go_wp2_with fail
          refine (Hx.out).mono ?_
          rintro e wj ⟨rfl, hbj⟩
          have hrj := Hri.out.below hbj hgl
          obtain ⟨d0, d1, d2, d3, d4⟩ := hrj.cells (turn_at (f := dConjV) hx)
          have f1 := fun o => hrj.free o
          have hgj := hrj.lt
          have hr3 := hrj.put k (by simp; omega) (dConjV x)
          rw [turn_set hx] at hr3
          have Hr3 := Lib.hid hr3
          have Hbj := Lib.hid (Hbi.out.trans (hbj.mono hsi))
          clear c0 c1 c2 c3 c4 hr3 hrj hbj Hri Hbi Hx hx Hcl2
          generalize dConjV x = y at *
          go_wp2_with fail
          go_roundg (M.length - (k + 1))
          case measure => omega
          case rel =>
            refine ⟨k + 1, rfl, by omega, by go_num, Hr3, ?_⟩
            have := Hbj.out
            show Below _ _ _
            go_grown
        · obtain rfl : k = M.length := by omega
          have hr := Hri.out
          have hcm : (c.map dConjV).length = M.length := by rw [List.length_map]; exact Hcl.out
          rw [← Hcl.out, List.drop_length, List.append_nil, show c.length = (c.map dConjV).length by rw [List.length_map], List.take_length] at hr
          have hrl := hr.lt
          generalize c.map dConjV = r at *
          have Hdsc := Lib.hid (show DSc wr w2.heap.size wr.heap.size (.slice (some ⟨g, 0, none⟩) M.length pc) r from ⟨_, _, by rw [hcm], by rw [hcm]; exact hpc, fun _ => ⟨g, rfl, hgB, hrl, hr⟩⟩)
          have Hown4 := Lib.hid (row_below Hown2.out Hbi.out)
          have Hrows4 := Lib.hid (Hrows2.out.upto.snoc Hdsc.out hs2 hsi fun k _ _ hk => Hbi.out.block k hk)
          have Hb4 := Lib.hid (Hb2.out.trans (Hbi.out.mono hs2))
          have hs4 := Hb4.out.size
          rw [← Hst2.out] at Hrows4
          clear hr Hri Hbi Hown2 Hrows2 Hb2 Hb3 Hrow Hcl
          go_wp2_with (first
            | (at_builtin; refine wpList_append_own _ rfl _ _ 24 rfl w.heap.size 31 i0 (.slice none 0 0) 1 24 Try.underlying24 hi hz0 hz1 hz2 rfl (by decide) _ _ _ rfl (Hown4.out.alloc _) ⟨wr.heap.size, 0, none⟩ 1 1 [.slice (some ⟨g, 0, none⟩) M.length pc] rfl rfl (slice_new _ _ _) (by intro u hu; simp at hu; subst hu; rfl) ?d3 ?d4 ?d5 ?_))
          case d3 => unfold maxLen; omega
          case d4 => omega
          case d5 => first | omega | (simp; omega)
          intro v' w5 hown' hgrow _
          have HB5 := Lib.hid ((Hb4.out.alloc hs4 (.cells #[.slice (some ⟨g, 0, none⟩) M.length pc] 31)).grown hgrow (by simp; omega) (fun q hq => by have := Hown4.out.lt q hq; omega))
          have Hrows5 := Lib.hid (((Hrows4.out.block fun k _ _ hk => Below.heap_alloc _ _ _ hk).grown (Hown4.out.alloc _) hgrow).upto)
          have Hown5 := Lib.hid hown'
          clear hown' hgrow
          go_wp2_with fail
          go_roundg (M.length - (j + 1))
          case measure => omega
          case rel => exact ⟨j + 1, _, rfl, by omega, by go_num, Hown5.out, Hrows5, HB5⟩
    · obtain rfl : j = M.length := by omega
      have hown := Hown.out
      have hrows := Hrows.out
      rw [← Hl.out, List.take_length] at hrows
      rw [← Hl.out] at hown
      have Hd := Lib.hid (DSM.of_own hown hrows (Nat.le_refl _))
      clear hown hrows
      go_wp2_with fail
      refine (H1r.out).mono ?_
      rintro e w2 ⟨rfl, hb2⟩
      have Hb2 := Lib.hid (Hb.out.trans (hb2.mono hs))
      have Hd2 := Lib.hid ((Hd.out.below hb2).mono (Nat.le_refl _) hb2.size)
      clear hb2
      go_wp2_with fail
      go_ret
      exact ⟨_, rfl, Hd2.out, Hb2.out⟩
set_option maxRecDepth 100000 in
set_option maxHeartbeats 1600000 in
theorem sadj_no (B C : Nat) (v : Value) (M : List (List Dw)) (w : World) (hv : DSM w B C v M) (hM : mtB M = false) (hn : M.length ≤ 1048576) (hm : amps M ≤ 1048576) :
    Calls Try.prog 31 #[v] w fun e w' => ∃ u, e = .returned u ∧ DSM w' w.heap.size w'.heap.size u [] ∧ Below w.heap.size w w' := by
  have Hv := Lib.hid hv
  have H1 := Lib.hid (fun W (h : DSM W B C v M) => svalidMt B C v M W h hn hm)
  rw [hM] at H1
  clear hM
  obtain ⟨a, cap, rfl, hcap, -⟩ := hv
  go_enter Try.func31, Try.ntmps31
  go_wp2_with fail
  go_loopg [3, 4] 0 (fun n out i wr => n = 0 ∧ i = .int .i64 0 ∧ out = .slice (some ⟨w.heap.size, 0, none⟩) 0 0 ∧ Hid (Below w.heap.size w wr))
  case atStart => exact ⟨rfl, rfl, rfl, (Below.refl _ _).alloc (Nat.le_refl _) _⟩
  case round =>
    obtain ⟨rfl, rfl, rfl, Hb⟩ := hrel
    have hs := Hb.out.size
    have H1r := Lib.hid (H1.out wr (Hv.out.block fun k _ _ hk => Hb.out.block k hk))
    go_wp2_with fail
    refine (H1r.out).mono ?_
    rintro e w2 ⟨rfl, hb2⟩
    have Hb2 := Lib.hid (Hb.out.trans (hb2.mono hs))
    clear hb2
    go_wp2_with fail
    go_ret
    exact ⟨_, rfl, DSM.nil, Hb2.out⟩
theorem sadj (B C : Nat) (v : Value) (M : List (List Dw)) (w : World) (hv : DSM w B C v M) (hn : M.length ≤ 1048576) (hm : amps M ≤ 1048576) :
    Calls Try.prog 31 #[v] w fun e w' => ∃ u, e = .returned u ∧ DSM w' w.heap.size w'.heap.size u (adjM M) ∧ Below w.heap.size w w' := by
  cases hM : mtB M with
  | false => rw [adjM_no hM]; exact sadj_no B C v M w hv hM hn hm
  | true => exact sadj_yes B C v M w hv hM hm
end Go.Proofs.Ytggjbpgibdpflaa
