/- BaseB17: several of our texts in one: PmS PmT PmD PmX PmB MtKc MtKa MtKb MtKd MtKh. -/
import Derived.Test.YtckfklpgnneodaaGreatBaseB08
import Derived.Test.YtckfklpgnneodaaGreatBaseB04
import Derived.Test.YtckfklpgnneodaaGreatGtB
import Derived.Laws.OwnMore
import Derived.Test.YtckfklpgnneodaaGreatBaseB02
import Derived.Deep.Onto
import Derived.Test.YtckfklpgnneodaaGreatDsKa
namespace Go.Proofs.YtckfklpgnneodaaGreat
open Go.RowKit
attribute [local irreducible] World.cell?
end Go.Proofs.YtckfklpgnneodaaGreat
namespace Go.Proofs.YtckfklpgnneodaaGreat
open Go.RowKit
attribute [local irreducible] World.cell?
end Go.Proofs.YtckfklpgnneodaaGreat
namespace Go.Proofs.YtckfklpgnneodaaGreat
open Go.RowKit
attribute [local irreducible] World.cell?
end Go.Proofs.YtckfklpgnneodaaGreat
namespace Go.Proofs.YtckfklpgnneodaaGreat
open Go.RowKit
end Go.Proofs.YtckfklpgnneodaaGreat
namespace Go.Proofs.YtckfklpgnneodaaGreat
open Go.RowKit
attribute [local irreducible] World.cell?
end Go.Proofs.YtckfklpgnneodaaGreat
namespace Go.Proofs.YtckfklpgnneodaaGreat
open Go.RowKit
theorem idM_get {n : Int} (h : 1 ≤ n ∧ n ≤ 4) {j : Nat} (hj : j < 2 ^ n.toNat) : (idM n)[j]? = some (basisL n (j : Int)) := by
  rw [idM_yes h, List.getElem?_map, List.getElem?_range hj]; rfl
attribute [local irreducible] World.cell?
set_option maxRecDepth 100000 in
set_option maxHeartbeats 3200000 in
theorem iident1 (w : World) :
    Calls Tryz.prog 44 #[.int .i64 1] w fun e w' => ∃ u, e = .returned u ∧ DSM w' w.heap.size w'.heap.size u (idM 1) ∧ Below w.heap.size w w' := by
  obtain ⟨i0, hi, hz0, hz1, hz2⟩ := info_parts infoDs
  have Hq := Lib.hid (fun w => iisq_yes 1 w (by decide))
  have Hb0 := Lib.hid (fun (j : Nat) (hj : j < 2) w => ibasis 1 j w (by decide) (by decide) (by omega) (by omega))
  have HN := Lib.hid (fun (j : Nat) (hj : j < 2) => idM_get (n := 1) (by decide) (j := j) hj)
  have HNl := Lib.hid (show (idM 1).length = 2 from idM_len (by decide))
  generalize idM 1 = I at *
  go_enter Tryz.func44, Tryz.ntmps44
  go_wp2_with fail
  refine (Hq.out _).mono ?_
  rintro e w0 ⟨rfl, rfl⟩
  go_wp2_with (first | (at_make; refine wpList_make_full _ rfl _ _ 34 rfl w.heap.size 57 i0 (.slice none 0 0) 1 Tryz.underlying34 hi hz0 hz1 .i64 .i64 2 2 2 rfl rfl rfl rfl (by rw [hz2]; omega) (by unfold maxLen; omega) (Nat.le_refl _) ?_))
  intro w1 hown hgrow
  have hb1 : Below w.heap.size w w1 := (Below.refl _ _).grown hgrow (Nat.le_refl _) (fun k hk => by cases hk)
  have hrow1 : MRow w1 w.heap.size w1.heap.size w.heap.size (List.replicate 2 []) := by
    rcases hown.2 with ⟨h, _⟩ | ⟨g, cap, cur, hv, hb, hg, _, _, hs, ht⟩
    · cases h
    · obtain ⟨rfl, rfl⟩ : g = w.heap.size ∧ cap = 2 := by injection hv with hv _ hv2; injection hv with hv; injection hv with hv; exact ⟨hv.symm, hv2.symm⟩
      refine ⟨cur, _, hg, ?_, rows_nil (n := 2)⟩
      rw [List.length_replicate, ← made_slices 2]
      first | exact ht | simpa using ht
  rw [← HNl.out] at hrow1
  have Hb1 := Lib.hid hb1
  have Hrow1 := Lib.hid hrow1
  clear hown hgrow hb1 hrow1
  go_wp2_with fail
  go_loopg [13] 2 (fun n i wr => ∃ j : Nat, n = 2 - j ∧ j ≤ 2 ∧ i = .int .i64 j ∧ Hid (MRow wr w.heap.size wr.heap.size w.heap.size (I.take j ++ List.replicate (I.length - j) [])) ∧ Hid (Below w.heap.size w wr))
  case atStart => exact ⟨0, rfl, Nat.zero_le _, rfl, by simpa using Hrow1, Hb1⟩
  case round =>
    obtain ⟨j, rfl, hj, rfl, Hrow, Hb⟩ := hrel
    have hs := Hb.out.size
    by_cases hlt : j < 2
    · have hlt' : (j : Int) < 2 := by omega
      have Hst := Lib.hid (halfM_set (HN.out j hlt))
      have hjN : j < I.length := by have := HNl.out; omega
      have Hj := Lib.hid (fun w => Hb0.out j hlt w)
      generalize basisL 1 (j : Int) = r at *
      go_wp2_with fail
      refine (Hj.out _).mono ?_
      rintro e w2 ⟨v, rfl, hds, hb2⟩
      have hr2 := Hrow.out.block (hb2.block _ Hrow.out.lt) fun k _ _ hk => hb2.block k hk
      have f1 := fun o => hr2.free o
      obtain ⟨a9, c9, e0, -⟩ := hr2.cell (halfM_at hjN)
      have hgl := Nat.lt_of_lt_of_le Hrow.out.lt hb2.size
      have hr3 := Hrow.out.put (j := j) (by simp; omega) hds.upto hs hb2.size fun k hk => hb2.block k hk
      rw [Hst.out] at hr3
      have Hr3 := Lib.hid hr3
      have Hb2 := Lib.hid (Hb.out.trans (hb2.mono hs))
      obtain ⟨a2, cap3, rfl, _⟩ := hds
      clear hr3 hr2 hb2 Hrow Hj Hb0 HN
      go_wp2_with fail
      go_roundg (2 - (j + 1))
      case measure => omega
      case rel =>
        refine ⟨j + 1, rfl, by omega, by go_num, by simpa using Hr3, ?_⟩
        have := Hb2.out
        show Below _ _ _
        go_grown
    · obtain rfl : j = 2 := by omega
      have hrow := Hrow.out
      have HD := Lib.hid (show DSM wr w.heap.size wr.heap.size (.slice (some ⟨w.heap.size, 0, none⟩) 2 2) I from ⟨_, _, by rw [HNl.out], by rw [HNl.out]; exact Nat.le_refl _, fun _ => ⟨_, rfl, Nat.le_refl _, hrow.lt, by
        have h16 := hrow
        rw [← HNl.out, List.take_length, Nat.sub_self] at h16
        simpa using h16⟩⟩)
      clear hrow Hrow
      go_wp2_with fail
      go_ret
      exact ⟨_, rfl, HD.out, Hb.out⟩
set_option maxRecDepth 100000 in
set_option maxHeartbeats 3200000 in
theorem iident2 (w : World) :
    Calls Tryz.prog 44 #[.int .i64 2] w fun e w' => ∃ u, e = .returned u ∧ DSM w' w.heap.size w'.heap.size u (idM 2) ∧ Below w.heap.size w w' := by
  obtain ⟨i0, hi, hz0, hz1, hz2⟩ := info_parts infoDs
  have Hq := Lib.hid (fun w => iisq_yes 2 w (by decide))
  have Hb0 := Lib.hid (fun (j : Nat) (hj : j < 4) w => ibasis 2 j w (by decide) (by decide) (by omega) (by omega))
  have HN := Lib.hid (fun (j : Nat) (hj : j < 4) => idM_get (n := 2) (by decide) (j := j) hj)
  have HNl := Lib.hid (show (idM 2).length = 4 from idM_len (by decide))
  generalize idM 2 = I at *
  go_enter Tryz.func44, Tryz.ntmps44
  go_wp2_with fail
  refine (Hq.out _).mono ?_
  rintro e w0 ⟨rfl, rfl⟩
  go_wp2_with (first | (at_make; refine wpList_make_full _ rfl _ _ 34 rfl w.heap.size 57 i0 (.slice none 0 0) 1 Tryz.underlying34 hi hz0 hz1 .i64 .i64 4 4 4 rfl rfl rfl rfl (by rw [hz2]; omega) (by unfold maxLen; omega) (Nat.le_refl _) ?_))
  intro w1 hown hgrow
  have hb1 : Below w.heap.size w w1 := (Below.refl _ _).grown hgrow (Nat.le_refl _) (fun k hk => by cases hk)
  have hrow1 : MRow w1 w.heap.size w1.heap.size w.heap.size (List.replicate 4 []) := by
    rcases hown.2 with ⟨h, _⟩ | ⟨g, cap, cur, hv, hb, hg, _, _, hs, ht⟩
    · cases h
    · obtain ⟨rfl, rfl⟩ : g = w.heap.size ∧ cap = 4 := by injection hv with hv _ hv2; injection hv with hv; injection hv with hv; exact ⟨hv.symm, hv2.symm⟩
      refine ⟨cur, _, hg, ?_, rows_nil (n := 4)⟩
      rw [List.length_replicate, ← made_slices 4]
      first | exact ht | simpa using ht
  rw [← HNl.out] at hrow1
  have Hb1 := Lib.hid hb1
  have Hrow1 := Lib.hid hrow1
  clear hown hgrow hb1 hrow1
  go_wp2_with fail
  go_loopg [13] 4 (fun n i wr => ∃ j : Nat, n = 4 - j ∧ j ≤ 4 ∧ i = .int .i64 j ∧ Hid (MRow wr w.heap.size wr.heap.size w.heap.size (I.take j ++ List.replicate (I.length - j) [])) ∧ Hid (Below w.heap.size w wr))
  case atStart => exact ⟨0, rfl, Nat.zero_le _, rfl, by simpa using Hrow1, Hb1⟩
  case round =>
    obtain ⟨j, rfl, hj, rfl, Hrow, Hb⟩ := hrel
    have hs := Hb.out.size
    by_cases hlt : j < 4
    · have hlt' : (j : Int) < 4 := by omega
      have Hst := Lib.hid (halfM_set (HN.out j hlt))
      have hjN : j < I.length := by have := HNl.out; omega
      have Hj := Lib.hid (fun w => Hb0.out j hlt w)
      generalize basisL 2 (j : Int) = r at *
      go_wp2_with fail
      refine (Hj.out _).mono ?_
      rintro e w2 ⟨v, rfl, hds, hb2⟩
      have hr2 := Hrow.out.block (hb2.block _ Hrow.out.lt) fun k _ _ hk => hb2.block k hk
      have f1 := fun o => hr2.free o
      obtain ⟨a9, c9, e0, -⟩ := hr2.cell (halfM_at hjN)
      have hgl := Nat.lt_of_lt_of_le Hrow.out.lt hb2.size
      have hr3 := Hrow.out.put (j := j) (by simp; omega) hds.upto hs hb2.size fun k hk => hb2.block k hk
      rw [Hst.out] at hr3
      have Hr3 := Lib.hid hr3
      have Hb2 := Lib.hid (Hb.out.trans (hb2.mono hs))
      obtain ⟨a2, cap3, rfl, _⟩ := hds
      clear hr3 hr2 hb2 Hrow Hj Hb0 HN
      go_wp2_with fail
      go_roundg (4 - (j + 1))
      case measure => omega
      case rel =>
        refine ⟨j + 1, rfl, by omega, by go_num, by simpa using Hr3, ?_⟩
        have := Hb2.out
        show Below _ _ _
        go_grown
    · obtain rfl : j = 4 := by omega
      have hrow := Hrow.out
      have HD := Lib.hid (show DSM wr w.heap.size wr.heap.size (.slice (some ⟨w.heap.size, 0, none⟩) 4 4) I from ⟨_, _, by rw [HNl.out], by rw [HNl.out]; exact Nat.le_refl _, fun _ => ⟨_, rfl, Nat.le_refl _, hrow.lt, by
        have h16 := hrow
        rw [← HNl.out, List.take_length, Nat.sub_self] at h16
        simpa using h16⟩⟩)
      clear hrow Hrow
      go_wp2_with fail
      go_ret
      exact ⟨_, rfl, HD.out, Hb.out⟩
set_option maxRecDepth 100000 in
set_option maxHeartbeats 3200000 in
theorem iident3 (w : World) :
    Calls Tryz.prog 44 #[.int .i64 3] w fun e w' => ∃ u, e = .returned u ∧ DSM w' w.heap.size w'.heap.size u (idM 3) ∧ Below w.heap.size w w' := by
  obtain ⟨i0, hi, hz0, hz1, hz2⟩ := info_parts infoDs
  have Hq := Lib.hid (fun w => iisq_yes 3 w (by decide))
  have Hb0 := Lib.hid (fun (j : Nat) (hj : j < 8) w => ibasis 3 j w (by decide) (by decide) (by omega) (by omega))
  have HN := Lib.hid (fun (j : Nat) (hj : j < 8) => idM_get (n := 3) (by decide) (j := j) hj)
  have HNl := Lib.hid (show (idM 3).length = 8 from idM_len (by decide))
  generalize idM 3 = I at *
  go_enter Tryz.func44, Tryz.ntmps44
  go_wp2_with fail
  refine (Hq.out _).mono ?_
  rintro e w0 ⟨rfl, rfl⟩
  go_wp2_with (first | (at_make; refine wpList_make_full _ rfl _ _ 34 rfl w.heap.size 57 i0 (.slice none 0 0) 1 Tryz.underlying34 hi hz0 hz1 .i64 .i64 8 8 8 rfl rfl rfl rfl (by rw [hz2]; omega) (by unfold maxLen; omega) (Nat.le_refl _) ?_))
  intro w1 hown hgrow
  have hb1 : Below w.heap.size w w1 := (Below.refl _ _).grown hgrow (Nat.le_refl _) (fun k hk => by cases hk)
  have hrow1 : MRow w1 w.heap.size w1.heap.size w.heap.size (List.replicate 8 []) := by
    rcases hown.2 with ⟨h, _⟩ | ⟨g, cap, cur, hv, hb, hg, _, _, hs, ht⟩
    · cases h
    · obtain ⟨rfl, rfl⟩ : g = w.heap.size ∧ cap = 8 := by injection hv with hv _ hv2; injection hv with hv; injection hv with hv; exact ⟨hv.symm, hv2.symm⟩
      refine ⟨cur, _, hg, ?_, rows_nil (n := 8)⟩
      rw [List.length_replicate, ← made_slices 8]
      first | exact ht | simpa using ht
  rw [← HNl.out] at hrow1
  have Hb1 := Lib.hid hb1
  have Hrow1 := Lib.hid hrow1
  clear hown hgrow hb1 hrow1
  go_wp2_with fail
  go_loopg [13] 8 (fun n i wr => ∃ j : Nat, n = 8 - j ∧ j ≤ 8 ∧ i = .int .i64 j ∧ Hid (MRow wr w.heap.size wr.heap.size w.heap.size (I.take j ++ List.replicate (I.length - j) [])) ∧ Hid (Below w.heap.size w wr))
  case atStart => exact ⟨0, rfl, Nat.zero_le _, rfl, by simpa using Hrow1, Hb1⟩
  case round =>
    obtain ⟨j, rfl, hj, rfl, Hrow, Hb⟩ := hrel
    have hs := Hb.out.size
    by_cases hlt : j < 8
    · have hlt' : (j : Int) < 8 := by omega
      have Hst := Lib.hid (halfM_set (HN.out j hlt))
      have hjN : j < I.length := by have := HNl.out; omega
      have Hj := Lib.hid (fun w => Hb0.out j hlt w)
      generalize basisL 3 (j : Int) = r at *
      go_wp2_with fail
      refine (Hj.out _).mono ?_
      rintro e w2 ⟨v, rfl, hds, hb2⟩
      have hr2 := Hrow.out.block (hb2.block _ Hrow.out.lt) fun k _ _ hk => hb2.block k hk
      have f1 := fun o => hr2.free o
      obtain ⟨a9, c9, e0, -⟩ := hr2.cell (halfM_at hjN)
      have hgl := Nat.lt_of_lt_of_le Hrow.out.lt hb2.size
      have hr3 := Hrow.out.put (j := j) (by simp; omega) hds.upto hs hb2.size fun k hk => hb2.block k hk
      rw [Hst.out] at hr3
      have Hr3 := Lib.hid hr3
      have Hb2 := Lib.hid (Hb.out.trans (hb2.mono hs))
      obtain ⟨a2, cap3, rfl, _⟩ := hds
      clear hr3 hr2 hb2 Hrow Hj Hb0 HN
      go_wp2_with fail
      go_roundg (8 - (j + 1))
      case measure => omega
      case rel =>
        refine ⟨j + 1, rfl, by omega, by go_num, by simpa using Hr3, ?_⟩
        have := Hb2.out
        show Below _ _ _
        go_grown
    · obtain rfl : j = 8 := by omega
      have hrow := Hrow.out
      have HD := Lib.hid (show DSM wr w.heap.size wr.heap.size (.slice (some ⟨w.heap.size, 0, none⟩) 8 8) I from ⟨_, _, by rw [HNl.out], by rw [HNl.out]; exact Nat.le_refl _, fun _ => ⟨_, rfl, Nat.le_refl _, hrow.lt, by
        have h16 := hrow
        rw [← HNl.out, List.take_length, Nat.sub_self] at h16
        simpa using h16⟩⟩)
      clear hrow Hrow
      go_wp2_with fail
      go_ret
      exact ⟨_, rfl, HD.out, Hb.out⟩
set_option maxRecDepth 100000 in
set_option maxHeartbeats 3200000 in
theorem iident4 (w : World) :
    Calls Tryz.prog 44 #[.int .i64 4] w fun e w' => ∃ u, e = .returned u ∧ DSM w' w.heap.size w'.heap.size u (idM 4) ∧ Below w.heap.size w w' := by
  obtain ⟨i0, hi, hz0, hz1, hz2⟩ := info_parts infoDs
  have Hq := Lib.hid (fun w => iisq_yes 4 w (by decide))
  have Hb0 := Lib.hid (fun (j : Nat) (hj : j < 16) w => ibasis 4 j w (by decide) (by decide) (by omega) (by omega))
  have HN := Lib.hid (fun (j : Nat) (hj : j < 16) => idM_get (n := 4) (by decide) (j := j) hj)
  have HNl := Lib.hid (show (idM 4).length = 16 from idM_len (by decide))
  generalize idM 4 = I at *
  go_enter Tryz.func44, Tryz.ntmps44
  go_wp2_with fail
  refine (Hq.out _).mono ?_
  rintro e w0 ⟨rfl, rfl⟩
  go_wp2_with (first | (at_make; refine wpList_make_full _ rfl _ _ 34 rfl w.heap.size 57 i0 (.slice none 0 0) 1 Tryz.underlying34 hi hz0 hz1 .i64 .i64 16 16 16 rfl rfl rfl rfl (by rw [hz2]; omega) (by unfold maxLen; omega) (Nat.le_refl _) ?_))
  intro w1 hown hgrow
  have hb1 : Below w.heap.size w w1 := (Below.refl _ _).grown hgrow (Nat.le_refl _) (fun k hk => by cases hk)
  have hrow1 : MRow w1 w.heap.size w1.heap.size w.heap.size (List.replicate 16 []) := by
    rcases hown.2 with ⟨h, _⟩ | ⟨g, cap, cur, hv, hb, hg, _, _, hs, ht⟩
    · cases h
    · obtain ⟨rfl, rfl⟩ : g = w.heap.size ∧ cap = 16 := by injection hv with hv _ hv2; injection hv with hv; injection hv with hv; exact ⟨hv.symm, hv2.symm⟩
      refine ⟨cur, _, hg, ?_, rows_nil (n := 16)⟩
      rw [List.length_replicate, ← made_slices 16]
      first | exact ht | simpa using ht
  rw [← HNl.out] at hrow1
  have Hb1 := Lib.hid hb1
  have Hrow1 := Lib.hid hrow1
  clear hown hgrow hb1 hrow1
  go_wp2_with fail
  go_loopg [13] 16 (fun n i wr => ∃ j : Nat, n = 16 - j ∧ j ≤ 16 ∧ i = .int .i64 j ∧ Hid (MRow wr w.heap.size wr.heap.size w.heap.size (I.take j ++ List.replicate (I.length - j) [])) ∧ Hid (Below w.heap.size w wr))
  case atStart => exact ⟨0, rfl, Nat.zero_le _, rfl, by simpa using Hrow1, Hb1⟩
  case round =>
    obtain ⟨j, rfl, hj, rfl, Hrow, Hb⟩ := hrel
    have hs := Hb.out.size
    by_cases hlt : j < 16
    · have hlt' : (j : Int) < 16 := by omega
      have Hst := Lib.hid (halfM_set (HN.out j hlt))
      have hjN : j < I.length := by have := HNl.out; omega
      have Hj := Lib.hid (fun w => Hb0.out j hlt w)
      generalize basisL 4 (j : Int) = r at *
      go_wp2_with fail
      refine (Hj.out _).mono ?_
      rintro e w2 ⟨v, rfl, hds, hb2⟩
      have hr2 := Hrow.out.block (hb2.block _ Hrow.out.lt) fun k _ _ hk => hb2.block k hk
      have f1 := fun o => hr2.free o
      obtain ⟨a9, c9, e0, -⟩ := hr2.cell (halfM_at hjN)
      have hgl := Nat.lt_of_lt_of_le Hrow.out.lt hb2.size
      have hr3 := Hrow.out.put (j := j) (by simp; omega) hds.upto hs hb2.size fun k hk => hb2.block k hk
      rw [Hst.out] at hr3
      have Hr3 := Lib.hid hr3
      have Hb2 := Lib.hid (Hb.out.trans (hb2.mono hs))
      obtain ⟨a2, cap3, rfl, _⟩ := hds
      clear hr3 hr2 hb2 Hrow Hj Hb0 HN
      go_wp2_with fail
      go_roundg (16 - (j + 1))
      case measure => omega
      case rel =>
        refine ⟨j + 1, rfl, by omega, by go_num, by simpa using Hr3, ?_⟩
        have := Hb2.out
        show Below _ _ _
        go_grown
    · obtain rfl : j = 16 := by omega
      have hrow := Hrow.out
      have HD := Lib.hid (show DSM wr w.heap.size wr.heap.size (.slice (some ⟨w.heap.size, 0, none⟩) 16 16) I from ⟨_, _, by rw [HNl.out], by rw [HNl.out]; exact Nat.le_refl _, fun _ => ⟨_, rfl, Nat.le_refl _, hrow.lt, by
        have h16 := hrow
        rw [← HNl.out, List.take_length, Nat.sub_self] at h16
        simpa using h16⟩⟩)
      clear hrow Hrow
      go_wp2_with fail
      go_ret
      exact ⟨_, rfl, HD.out, Hb.out⟩
theorem iident (n : Int) (w : World) (n0 : -9223372036854775808 ≤ n) (n1 : n ≤ 9223372036854775807) :
    Calls Tryz.prog 44 #[.int .i64 n] w fun e w' => ∃ v, e = .returned v ∧ DSM w' w.heap.size w'.heap.size v (idM n) ∧ Below w.heap.size w w' := by
  by_cases h : 1 ≤ n ∧ n ≤ 4
  · rcases (show n = 1 ∨ n = 2 ∨ n = 3 ∨ n = 4 by omega) with rfl | rfl | rfl | rfl
    · exact iident1 w
    · exact iident2 w
    · exact iident3 w
    · exact iident4 w
  · rw [idM_no h]
    have Hq := Lib.hid (fun w => iisq_no n w h n0 n1)
    clear h n0 n1
    go_enter Tryz.func44, Tryz.ntmps44
    go_wp2_with fail
    refine (Hq.out _).mono ?_
    rintro e w0 ⟨rfl, rfl⟩
    go_wp2_with fail
    go_ret
    exact ⟨_, rfl, DSM.nil, Below.refl _ _⟩
end Go.Proofs.YtckfklpgnneodaaGreat
namespace Go.Proofs.YtckfklpgnneodaaGreat
open Go.RowKit
theorem colsM_get {L : List (List Dw)} {j : Nat} (hj : j < L.length) : (colsM L)[j]? = some (col L j) := by
  rw [colsM, List.getElem?_map, List.getElem?_range hj]; rfl
attribute [local irreducible] World.cell?
set_option maxRecDepth 100000 in
set_option maxHeartbeats 6400000 in
theorem itrans (B C : Nat) (v : Value) (L : List (List Dw)) (w : World) (hv : DSM w B C v L) (hk : ∀ r ∈ L, L.length ≤ r.length) (hn : L.length ≤ 1048576) :
    Calls Tryz.prog 61 #[v] w fun e w' => ∃ u, e = .returned u ∧ DSM w' w.heap.size w'.heap.size u (colsM L) ∧ Below w.heap.size w w' := by
  obtain ⟨i0, hi, hz0, hz1, hz2⟩ := info_parts infoDs
  obtain ⟨j0, gi, gz0, gz1, gz2⟩ := info_parts infoDw
  obtain ⟨a, cap, rfl, hcap, hr⟩ := hv
  have Hr := Lib.hid hr
  have Hk := Lib.hid hk
  have HNl := Lib.hid (colsM_len L)
  have HN := Lib.hid (fun (j : Nat) (hj : j < L.length) => colsM_get (L := L) hj)
  clear hr hk
  generalize colsM L = N at *
  go_enter Tryz.func61, Tryz.ntmps61
  go_wp2_with (first | (at_make; refine wpList_make_full _ rfl _ _ 34 rfl w.heap.size 57 i0 (.slice none 0 0) 1 Tryz.underlying34 hi hz0 hz1 .i64 .i64 L.length L.length L.length rfl rfl rfl rfl (by rw [hz2]; omega) (by unfold maxLen; omega) (Nat.le_refl _) ?_))
  intro w1 hown hgrow
  have hb1 : Below w.heap.size w w1 := (Below.refl _ _).grown hgrow (Nat.le_refl _) (fun k hk => by cases hk)
  have hrow1 : MRow w1 w.heap.size w1.heap.size w.heap.size (List.replicate L.length []) := by
    rcases hown.2 with ⟨h, _⟩ | ⟨g, cap, cur, hv, hb, hg, _, _, hs, ht⟩
    · cases h
    · obtain ⟨rfl, rfl⟩ : g = w.heap.size ∧ cap = L.length := by injection hv with hv _ hv2; injection hv with hv; injection hv with hv; exact ⟨hv.symm, hv2.symm⟩
      refine ⟨cur, _, hg, ?_, rows_nil (n := L.length)⟩
      rw [List.length_replicate, ← made_slices L.length, Nat.mul_one]
      first | exact ht | simpa using ht
  rw [← HNl.out] at hrow1
  have Hb1 := Lib.hid hb1
  have Hrow1 := Lib.hid hrow1
  clear hown hgrow hb1 hrow1
  go_wp2_with fail
  go_loopg [13] L.length (fun n i wr => ∃ j : Nat, n = L.length - j ∧ j ≤ L.length ∧ i = .int .i64 j ∧ Hid (MRow wr w.heap.size wr.heap.size w.heap.size (N.take j ++ List.replicate (N.length - j) [])) ∧ Hid (Below w.heap.size w wr))
  case atStart => exact ⟨0, rfl, Nat.zero_le _, rfl, by simpa using Hrow1, Hb1⟩
  case round =>
    obtain ⟨j, rfl, hj, rfl, Hrow, Hb⟩ := hrel
    obtain ⟨wo, hwo⟩ : ∃ wo, wo = wr := ⟨wr, rfl⟩
    subst hwo
    have hs := Hb.out.size
    by_cases hlt : j < L.length
    · have Hst := Lib.hid (halfM_set (HN.out j hlt))
      have hjN : j < N.length := by have := HNl.out; omega
      go_wp2_with (first | (at_make; refine wpList_make_own _ rfl _ _ 57 rfl wo.heap.size 83 j0 (.agg #[.int .i64 0, .int .i64 0, .int .i64 0, .int .i64 0, .int .i64 0]) 5 Tryz.underlying57 gi gz0 gz1 .i64 .i64 L.length L.length rfl rfl rfl (by rw [gz2]; omega) (by unfold maxLen; omega) (Nat.le_refl _) ?_))
      intro w2 hown2 hgrow2
      have Hb2 := Lib.hid (show Below wo.heap.size wo w2 from (Below.refl _ _).grown hgrow2 (Nat.le_refl _) (fun k hk => by cases hk))
      have Hown2 := Lib.hid hown2
      clear hown2 hgrow2
      go_wp2_with fail
      go_loopg [5, 21] L.length (fun n out i ws => ∃ k : Nat, n = L.length - k ∧ k ≤ L.length ∧ i = .int .i64 k ∧ Hid (ws.ownsRow wo.heap.size 83 5 out k (flat ((col L j).take k))) ∧ Hid (Below wo.heap.size wo ws))
      case atStart => exact ⟨0, rfl, Nat.zero_le _, rfl, Lib.hid (by simpa [flat] using Hown2.out), Hb2⟩
      case round =>
        obtain ⟨k, rfl, hk, rfl, Hown, Hbi⟩ := hrel
        have hsi := Hbi.out.size
        have HB := Lib.hid (Hb.out.trans (Hbi.out.mono hs))
        have hsB := HB.out.size
        by_cases hlk : k < L.length
        · obtain ⟨g, rfl, _, _, hrow⟩ := Hr.out (by omega)
          obtain ⟨r, hr⟩ : ∃ r, L[k]? = some r := ⟨L[k], List.getElem?_eq_getElem hlk⟩
          have hkr := Hk.out r (List.mem_of_getElem? hr)
          obtain ⟨x, hx⟩ : ∃ x, r[j]? = some x := ⟨r[j]'(by omega), List.getElem?_eq_getElem _⟩
          have r1 := hrow.block (HB.out.block _ hrow.lt) fun k _ _ hk => HB.out.block k hk
          obtain ⟨p, pc, c0, hd1⟩ := r1.cell hr
          obtain ⟨p', pc', he, hpc, hd2⟩ := hd1
          obtain ⟨g2, hp, _, _, hrow2⟩ := hd2 (by omega)
          injection he with he1 he2 he3
          subst he1 he3 hp
          obtain ⟨d0, d1, d2, d3, d4⟩ := hrow2.cells hx
          have Hstep := Lib.hid (col_step hr hx)
          have hgl := r1.lt
          have hgl2 := hrow2.lt
          clear hd2 r1 hrow hrow2 hr hx he2
          go_wp2_with (first
            | (at_builtin; refine wpList_append_own _ rfl _ _ 57 rfl wo.heap.size 83 j0 (.agg #[.int .i64 0, .int .i64 0, .int .i64 0, .int .i64 0, .int .i64 0]) 5 40 Tryz.underlying57 gi gz0 gz1 gz2 rfl (by decide) _ _ _ rfl (Hown.out.alloc _) ⟨wr.heap.size, 0, none⟩ 1 1 (fl x) rfl rfl (fl_new _ _ _) (fl_plain _) ?d3 ?d4 ?d5 ?_))
          case d3 => unfold maxLen; omega
          case d4 => omega
          case d5 => first | omega | (simp; omega) | (simp; omega)
          intro v' w4 hown' hgrow _
          have HB4 := Lib.hid ((Hbi.out.alloc hsi (.cells #[.int .i64 x.n.a, .int .i64 x.n.b, .int .i64 x.n.c, .int .i64 x.n.d, .int .i64 x.e] 83)).grown hgrow (by simp; omega) (fun q hq => by have := Hown.out.lt q hq; omega))
          rw [Hstep.out] at hown'
          have Hown4 := Lib.hid hown'
          clear hown' hgrow
          go_wp2_with fail
          go_roundg (L.length - (k + 1))
          case measure => omega
          case rel => exact ⟨k + 1, rfl, by omega, by go_num, Hown4.out, HB4⟩
        · obtain rfl : k = L.length := by omega
          have hown := Hown.out
          rw [show L.length = (col L j).length from (col_len L j).symm, List.take_length] at hown
          have hd := DSl.of_own hown
          have hr2 := Hrow.out.block (Hbi.out.block _ Hrow.out.lt) fun k _ _ hk => Hbi.out.block k hk
          have f1 := fun o => hr2.free o
          obtain ⟨a9, c9, e0, -⟩ := hr2.cell (halfM_at hjN)
          have hgl := Nat.lt_of_lt_of_le Hrow.out.lt hsi
          have hr3 := Hrow.out.put (j := j) (by simp; omega) hd.upto hs hsi fun k hk => Hbi.out.block k hk
          rw [Hst.out] at hr3
          have Hr3 := Lib.hid hr3
          obtain ⟨a2, cap3, rfl, -, -⟩ := hd
          clear hr3 hr2 hown Hown Hrow Hbi Hb
          go_wp2_with fail
          go_roundg (L.length - (j + 1))
          case measure => omega
          case rel =>
            refine ⟨j + 1, rfl, by omega, by go_num, by simpa using Hr3, ?_⟩
            have := HB.out
            show Below _ _ _
            go_grown
    · obtain rfl : j = L.length := by omega
      have hrow := Hrow.out
      rw [← HNl.out] at hrow
      have HD := Lib.hid (show DSM wo w.heap.size wo.heap.size (.slice (some ⟨w.heap.size, 0, none⟩) L.length L.length) N from ⟨_, _, by rw [HNl.out], by rw [HNl.out]; exact Nat.le_refl _, fun _ => ⟨_, rfl, Nat.le_refl _, hrow.lt, by simpa using hrow⟩⟩)
      clear hrow Hrow
      go_wp2_with fail
      go_ret
      exact ⟨_, rfl, HD.out, Hb.out⟩
end Go.Proofs.YtckfklpgnneodaaGreat
namespace Go.Proofs.YtckfklpgnneodaaGreat
open Go.RowKit
attribute [local irreducible] World.cell?
end Go.Proofs.YtckfklpgnneodaaGreat
namespace Go.Proofs.YtckfklpgnneodaaGreat
open Go.RowKit
attribute [local irreducible] World.cell?
end Go.Proofs.YtckfklpgnneodaaGreat
namespace Go.Proofs.YtckfklpgnneodaaGreat
open Go.RowKit
attribute [local irreducible] World.cell?
theorem mix_at {X Y : List (List Dw)} {j : Nat} (hX : j < X.length) {r : List Dw} (hr : Y[j]? = some r) : (X.take j ++ Y.drop j)[j]? = some r := by
  rw [List.getElem?_append_right (by simp; omega), List.getElem?_drop]
  rw [show j + (j - (X.take j).length) = j by simp; omega]
  exact hr
theorem mix_set {X Y : List (List Dw)} {j : Nat} (hl : X.length = Y.length) {r : List Dw} (hr : X[j]? = some r) : (X.take j ++ Y.drop j).set j r = X.take (j + 1) ++ Y.drop (j + 1) := by
  have h : j < X.length := by
    rcases Nat.lt_or_ge j X.length with h' | h'
    · exact h'
    · rw [List.getElem?_eq_none h'] at hr; cases hr
  have e : Y.drop j = Y[j]'(by omega) :: Y.drop (j + 1) := (List.getElem_cons_drop ..).symm
  rw [List.set_append_right _ _ (by simp; omega), show j - (X.take j).length = 0 by simp; omega, e, List.set_cons_zero, List.take_add_one, hr, List.append_assoc]
  rfl
def mapX (n : Nat) (r : Nat → List Dw) : List (List Dw) := (List.range n).map r
theorem mapX_len (n : Nat) (r : Nat → List Dw) : (mapX n r).length = n := by rw [mapX, List.length_map, List.length_range]
theorem mapX_get {n : Nat} {r : Nat → List Dw} {j : Nat} (hj : j < n) : (mapX n r)[j]? = some (r j) := by
  rw [mapX, List.getElem?_map, List.getElem?_range hj]; rfl
set_option maxRecDepth 100000 in
set_option maxHeartbeats 6400000 in
theorem imapC (F : Nat) (C : Array Value) (eF : ∀ args w, (callFunc F args).run Tryz.prog w = .ok (.enter F args) w) (R S : Nat) (u : Value) (B : List (List Dw)) (t : Nat → Bool) (r : Nat → List Dw) (w : World) (hu : DSM w R S u B) (hk : ∀ r ∈ B, B.length ≤ r.length) (hn : B.length ≤ 1048576) (hr : ∀ k, k < B.length → t k = true → (r k).length = B.length)
    (hF : ∀ k, k < B.length → ∀ D c W, Below w.heap.size w W → DSl W D c (col B k) → Calls Tryz.prog F (#[c] ++ C) W fun e w' => (∃ q, e = .returned (.tuple #[q, .bool (t k)]) ∧ DSl w' W.heap.size q (r k)) ∧ Below W.heap.size W w') :
    Calls Tryz.prog 43 #[u, .func (.func F) #[] C] w fun e w' => (∃ v, e = .returned (.tuple #[v, .bool ((List.range B.length).all t)]) ∧ DSM w' w.heap.size w'.heap.size v (if (List.range B.length).all t = true then colsM (mapX B.length r) else [])) ∧ Below w.heap.size w w' := by
  have H2 := Lib.hid (fun W (h : DSM W R S u B) => itrans R S u B W h hk hn)
  have HF := Lib.hid hF
  have Hu := Lib.hid hu
  obtain ⟨SB, hSB⟩ : ∃ SB, SB = (List.range B.length).all t := ⟨_, rfl⟩
  obtain ⟨SL, hSL⟩ : ∃ SL, SL = if SB = true then colsM (mapX B.length r) else [] := ⟨_, rfl⟩
  rw [← hSB, ← hSL]
  have HSB := Lib.hid hSB
  have HSL := Lib.hid hSL
  have Hlen := Lib.hid hr
  have HX := Lib.hid (fun (j : Nat) (hj : j < B.length) => mapX_get (r := r) hj)
  have HY := Lib.hid (fun (j : Nat) (hj : j < B.length) => colsM_get (L := B) hj)
  have HXl := Lib.hid (mapX_len B.length r)
  have HYl := Lib.hid (colsM_len B)
  have HT := Lib.hid (fun (D E : Nat) (c : Value) W (h : DSM W D E c (mapX B.length r)) (hr : ∀ x ∈ mapX B.length r, (mapX B.length r).length ≤ x.length) => itrans D E c (mapX B.length r) W h hr (by rw [mapX_len]; exact hn))
  have HM := Lib.hid (fun x (h : x ∈ mapX B.length r) => List.mem_map.1 h)
  generalize mapX B.length r = X at *
  generalize colsM B = Y at *
  clear hSB hSL hF hr hk
  obtain ⟨a', cap', rfl, hcap', -⟩ := hu
  go_enter Tryz.func43, Tryz.ntmps43
  go_wp2_with fail
  refine (H2.out _ Hu.out).mono ?_
  rintro e w2 ⟨c, rfl, hdc, hb2⟩
  have Hb2 := Lib.hid hb2
  have hs2 := Hb2.out.size
  obtain ⟨ca, cc, rfl, hcc, hcr⟩ := hdc
  have Hcr := Lib.hid hcr
  rw [HYl.out] at hcc ⊢
  clear hb2 hcr H2
  go_wp2_with fail
  go_loopg [15] B.length (fun n i wr => ∃ j : Nat, n = B.length - j ∧ j ≤ B.length ∧ i = .int .i64 j ∧ Hid (0 < B.length → ∃ g, ca = some ⟨g, 0, none⟩ ∧ w.heap.size ≤ g ∧ MRow wr w.heap.size wr.heap.size g (X.take j ++ Y.drop j)) ∧ Hid (∀ k, k < j → t k = true) ∧ Hid (Below w.heap.size w wr) ∧ w2.heap.size ≤ wr.heap.size)
  case atStart => exact ⟨0, rfl, Nat.zero_le _, rfl, Lib.hid (fun h0 => by obtain ⟨g, e, h1, h2, h3⟩ := Hcr.out (by rw [HYl.out]; exact h0); exact ⟨g, e, h1, by simpa using h3⟩), Lib.hid (fun k hk => absurd hk (Nat.not_lt_zero _)), Hb2, Nat.le_refl _⟩
  case round =>
    obtain ⟨j, rfl, hj, rfl, Hrow, Hall, Hb, hsz⟩ := hrel
    have hs := Hb.out.size
    by_cases hlt : j < B.length
    · obtain ⟨g, rfl, hg1, hrow⟩ := Hrow.out (by omega)
      have hXj := HX.out j hlt
      have hjX : j < X.length := by have := HXl.out; omega
      obtain ⟨p, pc, c0, hd1⟩ := hrow.cell (mix_at hjX (HY.out j hlt))
      have hgl := hrow.lt
      have Hc := Lib.hid (HF.out j hlt _ _ wr Hb.out hd1.dsl)
      have Hst := Lib.hid (mix_set (X := X) (Y := Y) (by rw [HXl.out, HYl.out]) hXj)
      have Hat := Lib.hid (fun (h : t j = true) k (hk : k < j + 1) => by
        rcases Nat.lt_succ_iff_lt_or_eq.1 hk with h' | rfl
        · exact Hall.out k h'
        · exact h)
      have Hno := Lib.hid (fun (h : t j = false) => (show ((List.range B.length).all t) = false from by
        rw [List.all_eq_false]; exact ⟨j, List.mem_range.2 hlt, by rw [h]; decide⟩))
      have Hrw := Lib.hid hrow
      have hmix := mix_at hjX (HY.out j hlt)
      have HmixL := Lib.hid (show j < (X.take j ++ Y.drop j).length by
        rcases Nat.lt_or_ge j (X.take j ++ Y.drop j).length with k | k
        · exact k
        · rw [List.getElem?_eq_none k] at hmix; cases hmix)
      clear hd1 hrow hXj hmix
      generalize t j = tj at *
      generalize r j = rj at *
      go_wp2_with fail
      refine (Hc.out).mono ?_
      rintro e w3 ⟨⟨q, rfl, hdq⟩, hb3⟩
      have Hb3 := Lib.hid (Hb.out.trans (hb3.mono hs))
      have hs3 := Hb3.out.size
      cases tj with
      | false =>
        obtain rfl : SB = false := HSB.out.trans (Hno.out rfl)
        obtain rfl : SL = [] := HSL.out
        clear hdq hb3
        go_wp2_with fail
        go_returns
        exact ⟨⟨_, rfl, DSM.nil⟩, Hb3.out⟩
      | true =>
        have hr2 := Hrw.out.block (hb3.block _ Hrw.out.lt) fun k _ _ hk => hb3.block k hk
        have f1 := fun o => hr2.free o
        obtain ⟨a9, c9, e0, -⟩ := hr2.cell (mix_at hjX (HY.out j hlt))
        have hgl3 := Nat.lt_of_lt_of_le hgl hb3.size
        have hr3 := Hrw.out.put (j := j) HmixL.out hdq.upto (by omega) hb3.size fun k hk => hb3.block k hk
        rw [Hst.out] at hr3
        have Hr3 := Lib.hid hr3
        have hsz3 := Nat.le_trans hsz hb3.size
        obtain ⟨a2, cap3, rfl, -, -⟩ := hdq
        clear hr3 hr2 hb3 Hrow Hrw Hc Hb c0
        go_wp2_with fail
        go_roundg (B.length - (j + 1))
        case measure => omega
        case rel =>
          refine ⟨j + 1, rfl, by omega, by go_num, Lib.hid (fun _ => ⟨g, rfl, hg1, by simpa using Hr3.out⟩), Lib.hid (Hat.out trivial), ?_, by simpa using hsz3⟩
          have := Hb3.out
          show Below _ _ _
          go_grown
    · obtain rfl : j = B.length := by omega
      have hall : ((List.range B.length).all t) = true := by
        rw [List.all_eq_true]; exact fun k hk => Hall.out k (List.mem_range.1 hk)
      obtain rfl : SB = true := HSB.out.trans hall
      obtain rfl : SL = colsM X := HSL.out
      have hrow := Hrow.out
      have hd : DSM wr w.heap.size wr.heap.size (.slice ca B.length cc) X := ⟨_, _, by rw [HXl.out], by rw [HXl.out]; exact hcc, fun h0 => by
        rw [HXl.out] at h0
        obtain ⟨g, e, h1, h2⟩ := hrow h0
        refine ⟨g, e, h1, h2.lt, ?_⟩
        rw [List.take_of_length_le (by rw [HXl.out]; exact Nat.le_refl _), List.drop_of_length_le (by rw [HYl.out]; exact Nat.le_refl _), List.append_nil] at h2
        exact h2⟩
      have Hcs := Lib.hid (HT.out _ _ _ wr hd (fun r hr => by
        obtain ⟨k, hk, rfl⟩ := HM.out r hr
        rw [HXl.out, Hlen.out k (List.mem_range.1 hk) (Hall.out k (List.mem_range.1 hk))]
        exact Nat.le_refl _))
      clear hrow hd Hrow
      go_wp2_with fail
      refine (Hcs.out).mono ?_
      rintro e w6 ⟨q, rfl, hdq, hb6⟩
      have Hdq := Lib.hid (hdq.mono (D := w.heap.size) (E := w6.heap.size) hs (Nat.le_refl _))
      have Hb6 := Lib.hid (Hb.out.trans (hb6.mono hs))
      clear hb6 hdq
      go_wp2_with fail
      go_returns
      exact ⟨⟨_, rfl, Hdq.out⟩, Hb6.out⟩
end Go.Proofs.YtckfklpgnneodaaGreat
