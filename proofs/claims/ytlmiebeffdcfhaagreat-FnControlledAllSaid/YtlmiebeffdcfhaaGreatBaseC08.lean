/- BaseC08: several of our texts in one: CtKs MtKc CtP CtU MtKd MtKh ApK CtW CiKv BaseB21. -/
import Derived.Test.YtlmiebeffdcfhaaGreatCtKg
import Derived.Test.YtlmiebeffdcfhaaGreatBaseB15
import Derived.Test.YtlmiebeffdcfhaaGreatDsKa
import Derived.Test.YtlmiebeffdcfhaaGreatBaseC07
import Derived.Test.YtlmiebeffdcfhaaGreatBaseC02
import Derived.Test.YtlmiebeffdcfhaaGreatBaseB16
import Derived.Test.YtlmiebeffdcfhaaGreatMtKa
import Derived.Test.YtlmiebeffdcfhaaGreatMtKb
import Derived.Test.YtlmiebeffdcfhaaGreatBaseB20
import Derived.Test.YtlmiebeffdcfhaaGreatBaseB19
import Derived.Test.YtlmiebeffdcfhaaGreatBaseB11
import Derived.Test.YtlmiebeffdcfhaaGreatBaseC05
import Derived.Test.YtlmiebeffdcfhaaGreatBaseB12
namespace Go.Proofs.YtlmiebeffdcfhaaGreat
open Go.RowKit
theorem ctBs_noI {q : Int} {L : List Gt} {j : Nat} {x : Gt} (hx : L[j]? = some x) (h : ctB q x = false) : ctBs q L = false ∧ ctRs q L = [] := by
  have e : ctBs q L = false := by
    unfold ctBs
    rw [List.all_eq_false]
    exact ⟨x, List.mem_of_getElem? hx, by rw [h]; decide⟩
  exact ⟨e, by unfold ctRs; rw [e]; rfl⟩
theorem ctBs_takeI {q : Int} {L : List Gt} {j : Nat} {x : Gt} (hx : L[j]? = some x) (h : ctBs q (L.take j) = true) (h2 : ctB q x = true) : ctBs q (L.take (j + 1)) = true := by
  unfold ctBs at h ⊢
  rw [List.take_add_one, hx, List.all_append, h]
  simp [h2]
attribute [local irreducible] World.cell?
set_option maxRecDepth 100000 in
set_option maxHeartbeats 6400000 in
theorem ictGs (B : Nat) (q : Int) (v : Value) (L : List Gt) (w : World) (hv : gtE.Sl w B v L) (hm : L.length ≤ 1048576) :
    Calls Tryz.prog 16 #[.int .i64 q, v] w fun e w' => ∃ r, e = .returned (.tuple #[r, .bool (ctBs q L)]) ∧ gtE.Sl w' w.heap.size r (ctRs q L) ∧ Below w.heap.size w w' := by
  obtain ⟨a, cap, rfl, hcap, hr⟩ := hv
  have Hr := Lib.hid hr
  clear hr
  obtain ⟨T, hT⟩ : ∃ T, T = ctBs q L := ⟨_, rfl⟩
  obtain ⟨R, hR⟩ : ∃ R, R = ctRs q L := ⟨_, rfl⟩
  rw [← hT, ← hR]
  have HT := Lib.hid hT
  have HR0 := Lib.hid hR
  clear hT hR
  have HO := Lib.hid (heap_alloc_new w (.cells #[.slice none 0 0] 78))
  have Hb0 := Lib.hid (show Below w.heap.size w (w.alloc (.cells #[.slice none 0 0] 78)) by go_grown)
  go_enter Tryz.func16, Tryz.ntmps16
  go_wp2_with fail
  go_loopg [13] L.length (fun m i wr => ∃ (j : Nat) (o : Value), m = L.length - j ∧ j ≤ L.length ∧ i = .int .i64 j ∧ Hid (ctBs q (L.take j) = true) ∧ Hid (wr.heap[w.heap.size]? = some (.cells #[o] 78 (0, 0))) ∧ Hid (wr.ownsRow (w.heap.size + 1) 25 4 o (ctLL q (L.take j)).length (gtE.flat (ctLL q (L.take j)))) ∧ Hid (Below w.heap.size w wr))
  case atStart => exact ⟨0, .slice none 0 0, rfl, Nat.zero_le _, rfl, Lib.hid rfl, HO, Lib.hid ⟨rfl, .inl ⟨rfl, rfl⟩⟩, Hb0⟩
  case round =>
    obtain ⟨j, o, rfl, hj, rfl, Hall, HO1, Hown, Hb⟩ := hrel
    have hs := Hb.out.size
    have hlen := ctLL_take q L j
    have o0 := cell_at HO1.out 0 _ rfl
    have hol := lt_of_block HO1.out
    by_cases hlt : j < L.length
    · obtain ⟨g, rfl, hBg, hrow⟩ := Hr.out (by omega)
      obtain ⟨x, hx⟩ : ∃ x, L[j]? = some x := ⟨L[j], List.getElem?_eq_getElem hlt⟩
      have r1 := hrow.below Hb.out hrow.lt
      obtain ⟨c0, c1, c2, c3⟩ := GRow.cells r1 hx
      have hgl := r1.lt
      have Hst := Lib.hid (ctLL_step (q := q) hx)
      have Hno := Lib.hid (fun h => ctBs_noI (q := q) hx h)
      have Hyes := Lib.hid (fun h => ctBs_takeI (q := q) hx Hall.out h)
      have hl7 := ctR_len q x
      have hR : ctB q x = true → ctR q x = ctL q x := fun h => by unfold ctR; rw [h]; rfl
      have HR := Lib.hid hR
      clear hR
      have Hc := Lib.hid (fun W => ictG q x W)
      have HO2 := Lib.hid (alloc_blk (.cells #[.int .i64 x.k, .int .i64 x.a, .int .i64 x.b, .int .i64 x.c] 25) HO1.out)
      have HX := Lib.hid (heap_alloc_new wr (.cells #[.int .i64 x.k, .int .i64 x.a, .int .i64 x.b, .int .i64 x.c] 25))
      have Hown2 := Lib.hid (Hown.out.alloc (.cells #[.int .i64 x.k, .int .i64 x.a, .int .i64 x.b, .int .i64 x.c] 25))
      have Hb2 := Lib.hid (Hb.out.alloc hs (.cells #[.int .i64 x.k, .int .i64 x.a, .int .i64 x.b, .int .i64 x.c] 25))
      generalize ctR q x = M at *
      generalize ctB q x = t at *
      generalize ctLL q (L.take j) = F at *
      obtain ⟨x0, x1, x2, x3⟩ := blk_cells HX.out
      have hxl := lt_of_block HX.out
      clear hrow r1 hx
      go_wp2_with fail
      refine (Hc.out _).mono ?_
      rintro e w3 ⟨u, rfl, hu, hb3⟩
      have HO3 := Lib.hid (below_blk hb3 (lt_of_block HO2.out) HO2.out)
      have Hown3 := Lib.hid (row_below Hown2.out hb3)
      have Hb3 := Lib.hid (below_nx Hb2.out hb3)
      have hs3 := Hb3.out.size
      have Hadd := Lib.hid (iaddL _ w.heap.size o u F.length (gtE.flat F) M w3 HO3.out Hown3.out hu (by omega))
      obtain ⟨pu, cu, rfl, -, -⟩ := hu
      clear hb3 Hc o0 hol x0 x1 x2 x3 hxl c0 c1 c2 c3 hgl
      have o0 := cell_at HO3.out 0 _ rfl
      have hol := lt_of_block HO3.out
      cases t with
      | false =>
        obtain ⟨e1, e2⟩ := Hno.out (by trivial)
        obtain rfl := HT.out.trans e1
        obtain rfl := HR0.out.trans e2
        clear e1 e2
        go_wp2_with fail
        go_returns
        exact ⟨_, rfl, Enc.Sl.nil, Hb3.out⟩
      | true =>
        obtain rfl := HR.out (by trivial)
        go_wp2_with fail
        refine (Hadd.out).mono ?_
        rintro e w5 ⟨rfl, ⟨v5, hO5, hown5⟩, hb5⟩
        have HO5 := Lib.hid hO5
        have Hown5 := Lib.hid (show w5.ownsRow (w.heap.size + 1) 25 4 v5 (F ++ ctL q x).length (gtE.flat (F ++ ctL q x)) by rw [List.length_append, gtE.flat_app]; exact hown5)
        have Hb5 := Lib.hid (Hb3.out.trans hb5)
        have Hall5 := Lib.hid (Hyes.out (by trivial))
        rw [← Hst.out] at Hown5
        clear hO5 hown5 hb5 o0 hol
        go_wp2_with fail
        go_roundg (L.length - (j + 1))
        case measure => omega
        case rel => exact ⟨j + 1, v5, rfl, by omega, by go_num, Hall5, HO5, Hown5, Hb5⟩
    · obtain rfl : j = L.length := by omega
      rw [List.take_length] at Hown Hall
      have Hsl := Lib.hid (Enc.Sl.of_own (E := gtE) Hown.out)
      obtain ⟨pq, cq, rfl, -, -⟩ := id Hsl.out
      have e1 := Hall.out
      have e2 : ctRs q L = ctLL q L := by unfold ctRs; rw [e1]; rfl
      obtain rfl := HT.out.trans e1
      obtain rfl := HR0.out.trans e2
      clear e1 e2 Hall
      have o0 := cell_at HO1.out 0 _ rfl
      go_wp2_with fail
      go_returns
      exact ⟨_, rfl, Hsl.out.mono (by omega), Hb.out⟩
end Go.Proofs.YtlmiebeffdcfhaaGreat
namespace Go.Proofs.YtlmiebeffdcfhaaGreat
open Go.RowKit
theorem idM_get {n : Int} (h : 1 ≤ n ∧ n ≤ 4) {j : Nat} (hj : j < 2 ^ n.toNat) : (idM n)[j]? = some (basisL n (j : Int)) := by
  rw [idM_yes h, List.getElem?_map, List.getElem?_range hj]; rfl
attribute [local irreducible] World.cell?
set_option maxRecDepth 100000 in
set_option maxHeartbeats 3200000 in
theorem iident1 (w : World) :
    Calls Tryz.prog 41 #[.int .i64 1] w fun e w' => ∃ u, e = .returned u ∧ DSM w' w.heap.size w'.heap.size u (idM 1) ∧ Below w.heap.size w w' := by
  obtain ⟨i0, hi, hz0, hz1, hz2⟩ := info_parts infoDs
  have Hq := Lib.hid (fun w => iisq_yes 1 w (by decide))
  have Hb0 := Lib.hid (fun (j : Nat) (hj : j < 2) w => ibasis 1 j w (by decide) (by decide) (by omega) (by omega))
  have HN := Lib.hid (fun (j : Nat) (hj : j < 2) => idM_get (n := 1) (by decide) (j := j) hj)
  have HNl := Lib.hid (show (idM 1).length = 2 from idM_len (by decide))
  generalize idM 1 = I at *
  go_enter Tryz.func41, Tryz.ntmps41
  go_wp2_with fail
  refine (Hq.out _).mono ?_
  rintro e w0 ⟨rfl, rfl⟩
  go_wp2_with (first | (at_make; refine wpList_make_full _ rfl _ _ 32 rfl w.heap.size 59 i0 (.slice none 0 0) 1 Tryz.underlying32 hi hz0 hz1 .i64 .i64 2 2 2 rfl rfl rfl rfl (by rw [hz2]; omega) (by unfold maxLen; omega) (Nat.le_refl _) ?_))
  intro w1 hown hgrow
  have hb1 : Below w.heap.size w w1 := (Below.refl _ _).grown hgrow (Nat.le_refl _) (fun k hk => by cases hk)
  have hrow1 : MRow w1 w.heap.size w1.heap.size w.heap.size (List.replicate 2 []) := by
    rcases hown.2 with ⟨h, _⟩ | ⟨g, cap, cur, hv, hb, hg, _, _, hs, ht⟩
    · cases h
    · obtain ⟨rfl, rfl⟩ : g = w.heap.size ∧ cap = 2 := by injection hv with hv _ hv2; injection hv with hv; injection hv with hv; exact ⟨hv.symm, hv2.symm⟩
      refine ⟨cur, _, hg, ?_, rows_nil (n := 2)⟩
      rw [List.length_replicate, ← made_slices 2]
      first | exact ht | simpa using ht
  rw [← HNl.out] at hrow1
  have Hb1 := Lib.hid hb1
  have Hrow1 := Lib.hid hrow1
  clear hown hgrow hb1 hrow1
  go_wp2_with fail
  go_loopg [13] 2 (fun n i wr => ∃ j : Nat, n = 2 - j ∧ j ≤ 2 ∧ i = .int .i64 j ∧ Hid (MRow wr w.heap.size wr.heap.size w.heap.size (I.take j ++ List.replicate (I.length - j) [])) ∧ Hid (Below w.heap.size w wr))
  case atStart => exact ⟨0, rfl, Nat.zero_le _, rfl, by simpa using Hrow1, Hb1⟩
  case round =>
    obtain ⟨j, rfl, hj, rfl, Hrow, Hb⟩ := hrel
    have hs := Hb.out.size
    by_cases hlt : j < 2
    · have hlt' : (j : Int) < 2 := by omega
      have Hst := Lib.hid (halfM_set (HN.out j hlt))
      have hjN : j < I.length := by have := HNl.out; omega
      have Hj := Lib.hid (fun w => Hb0.out j hlt w)
      generalize basisL 1 (j : Int) = r at *
      go_wp2_with fail
      refine (Hj.out _).mono ?_
      rintro e w2 ⟨v, rfl, hds, hb2⟩
      have hr2 := Hrow.out.block (hb2.block _ Hrow.out.lt) fun k _ _ hk => hb2.block k hk
      have f1 := fun o => hr2.free o
      obtain ⟨a9, c9, e0, -⟩ := hr2.cell (halfM_at hjN)
      have hgl := Nat.lt_of_lt_of_le Hrow.out.lt hb2.size
      have hr3 := Hrow.out.put (j := j) (by simp; omega) hds.upto hs hb2.size fun k hk => hb2.block k hk
      rw [Hst.out] at hr3
      have Hr3 := Lib.hid hr3
      have Hb2 := Lib.hid (Hb.out.trans (hb2.mono hs))
      obtain ⟨a2, cap3, rfl, _⟩ := hds
      clear hr3 hr2 hb2 Hrow Hj Hb0 HN
      go_wp2_with fail
      go_roundg (2 - (j + 1))
      case measure => omega
      case rel =>
        refine ⟨j + 1, rfl, by omega, by go_num, by simpa using Hr3, ?_⟩
        have := Hb2.out
        show Below _ _ _
        go_grown
    · obtain rfl : j = 2 := by omega
      have hrow := Hrow.out
      have HD := Lib.hid (show DSM wr w.heap.size wr.heap.size (.slice (some ⟨w.heap.size, 0, none⟩) 2 2) I from ⟨_, _, by rw [HNl.out], by rw [HNl.out]; exact Nat.le_refl _, fun _ => ⟨_, rfl, Nat.le_refl _, hrow.lt, by
        have h16 := hrow
        rw [← HNl.out, List.take_length, Nat.sub_self] at h16
        simpa using h16⟩⟩)
      clear hrow Hrow
      go_wp2_with fail
      go_ret
      exact ⟨_, rfl, HD.out, Hb.out⟩
set_option maxRecDepth 100000 in
set_option maxHeartbeats 3200000 in
theorem iident2 (w : World) :
    Calls Tryz.prog 41 #[.int .i64 2] w fun e w' => ∃ u, e = .returned u ∧ DSM w' w.heap.size w'.heap.size u (idM 2) ∧ Below w.heap.size w w' := by
  obtain ⟨i0, hi, hz0, hz1, hz2⟩ := info_parts infoDs
  have Hq := Lib.hid (fun w => iisq_yes 2 w (by decide))
  have Hb0 := Lib.hid (fun (j : Nat) (hj : j < 4) w => ibasis 2 j w (by decide) (by decide) (by omega) (by omega))
  have HN := Lib.hid (fun (j : Nat) (hj : j < 4) => idM_get (n := 2) (by decide) (j := j) hj)
  have HNl := Lib.hid (show (idM 2).length = 4 from idM_len (by decide))
  generalize idM 2 = I at *
  go_enter Tryz.func41, Tryz.ntmps41
  go_wp2_with fail
  refine (Hq.out _).mono ?_
  rintro e w0 ⟨rfl, rfl⟩
  go_wp2_with (first | (at_make; refine wpList_make_full _ rfl _ _ 32 rfl w.heap.size 59 i0 (.slice none 0 0) 1 Tryz.underlying32 hi hz0 hz1 .i64 .i64 4 4 4 rfl rfl rfl rfl (by rw [hz2]; omega) (by unfold maxLen; omega) (Nat.le_refl _) ?_))
  intro w1 hown hgrow
  have hb1 : Below w.heap.size w w1 := (Below.refl _ _).grown hgrow (Nat.le_refl _) (fun k hk => by cases hk)
  have hrow1 : MRow w1 w.heap.size w1.heap.size w.heap.size (List.replicate 4 []) := by
    rcases hown.2 with ⟨h, _⟩ | ⟨g, cap, cur, hv, hb, hg, _, _, hs, ht⟩
    · cases h
    · obtain ⟨rfl, rfl⟩ : g = w.heap.size ∧ cap = 4 := by injection hv with hv _ hv2; injection hv with hv; injection hv with hv; exact ⟨hv.symm, hv2.symm⟩
      refine ⟨cur, _, hg, ?_, rows_nil (n := 4)⟩
      rw [List.length_replicate, ← made_slices 4]
      first | exact ht | simpa using ht
  rw [← HNl.out] at hrow1
  have Hb1 := Lib.hid hb1
  have Hrow1 := Lib.hid hrow1
  clear hown hgrow hb1 hrow1
  go_wp2_with fail
  go_loopg [13] 4 (fun n i wr => ∃ j : Nat, n = 4 - j ∧ j ≤ 4 ∧ i = .int .i64 j ∧ Hid (MRow wr w.heap.size wr.heap.size w.heap.size (I.take j ++ List.replicate (I.length - j) [])) ∧ Hid (Below w.heap.size w wr))
  case atStart => exact ⟨0, rfl, Nat.zero_le _, rfl, by simpa using Hrow1, Hb1⟩
  case round =>
    obtain ⟨j, rfl, hj, rfl, Hrow, Hb⟩ := hrel
    have hs := Hb.out.size
    by_cases hlt : j < 4
    · have hlt' : (j : Int) < 4 := by omega
      have Hst := Lib.hid (halfM_set (HN.out j hlt))
      have hjN : j < I.length := by have := HNl.out; omega
      have Hj := Lib.hid (fun w => Hb0.out j hlt w)
      generalize basisL 2 (j : Int) = r at *
      go_wp2_with fail
      refine (Hj.out _).mono ?_
      rintro e w2 ⟨v, rfl, hds, hb2⟩
      have hr2 := Hrow.out.block (hb2.block _ Hrow.out.lt) fun k _ _ hk => hb2.block k hk
      have f1 := fun o => hr2.free o
      obtain ⟨a9, c9, e0, -⟩ := hr2.cell (halfM_at hjN)
      have hgl := Nat.lt_of_lt_of_le Hrow.out.lt hb2.size
      have hr3 := Hrow.out.put (j := j) (by simp; omega) hds.upto hs hb2.size fun k hk => hb2.block k hk
      rw [Hst.out] at hr3
      have Hr3 := Lib.hid hr3
      have Hb2 := Lib.hid (Hb.out.trans (hb2.mono hs))
      obtain ⟨a2, cap3, rfl, _⟩ := hds
      clear hr3 hr2 hb2 Hrow Hj Hb0 HN
      go_wp2_with fail
      go_roundg (4 - (j + 1))
      case measure => omega
      case rel =>
        refine ⟨j + 1, rfl, by omega, by go_num, by simpa using Hr3, ?_⟩
        have := Hb2.out
        show Below _ _ _
        go_grown
    · obtain rfl : j = 4 := by omega
      have hrow := Hrow.out
      have HD := Lib.hid (show DSM wr w.heap.size wr.heap.size (.slice (some ⟨w.heap.size, 0, none⟩) 4 4) I from ⟨_, _, by rw [HNl.out], by rw [HNl.out]; exact Nat.le_refl _, fun _ => ⟨_, rfl, Nat.le_refl _, hrow.lt, by
        have h16 := hrow
        rw [← HNl.out, List.take_length, Nat.sub_self] at h16
        simpa using h16⟩⟩)
      clear hrow Hrow
      go_wp2_with fail
      go_ret
      exact ⟨_, rfl, HD.out, Hb.out⟩
set_option maxRecDepth 100000 in
set_option maxHeartbeats 3200000 in
theorem iident3 (w : World) :
    Calls Tryz.prog 41 #[.int .i64 3] w fun e w' => ∃ u, e = .returned u ∧ DSM w' w.heap.size w'.heap.size u (idM 3) ∧ Below w.heap.size w w' := by
  obtain ⟨i0, hi, hz0, hz1, hz2⟩ := info_parts infoDs
  have Hq := Lib.hid (fun w => iisq_yes 3 w (by decide))
  have Hb0 := Lib.hid (fun (j : Nat) (hj : j < 8) w => ibasis 3 j w (by decide) (by decide) (by omega) (by omega))
  have HN := Lib.hid (fun (j : Nat) (hj : j < 8) => idM_get (n := 3) (by decide) (j := j) hj)
  have HNl := Lib.hid (show (idM 3).length = 8 from idM_len (by decide))
  generalize idM 3 = I at *
  go_enter Tryz.func41, Tryz.ntmps41
  go_wp2_with fail
  refine (Hq.out _).mono ?_
  rintro e w0 ⟨rfl, rfl⟩
  go_wp2_with (first | (at_make; refine wpList_make_full _ rfl _ _ 32 rfl w.heap.size 59 i0 (.slice none 0 0) 1 Tryz.underlying32 hi hz0 hz1 .i64 .i64 8 8 8 rfl rfl rfl rfl (by rw [hz2]; omega) (by unfold maxLen; omega) (Nat.le_refl _) ?_))
  intro w1 hown hgrow
  have hb1 : Below w.heap.size w w1 := (Below.refl _ _).grown hgrow (Nat.le_refl _) (fun k hk => by cases hk)
  have hrow1 : MRow w1 w.heap.size w1.heap.size w.heap.size (List.replicate 8 []) := by
    rcases hown.2 with ⟨h, _⟩ | ⟨g, cap, cur, hv, hb, hg, _, _, hs, ht⟩
    · cases h
    · obtain ⟨rfl, rfl⟩ : g = w.heap.size ∧ cap = 8 := by injection hv with hv _ hv2; injection hv with hv; injection hv with hv; exact ⟨hv.symm, hv2.symm⟩
      refine ⟨cur, _, hg, ?_, rows_nil (n := 8)⟩
      rw [List.length_replicate, ← made_slices 8]
      first | exact ht | simpa using ht
  rw [← HNl.out] at hrow1
  have Hb1 := Lib.hid hb1
  have Hrow1 := Lib.hid hrow1
  clear hown hgrow hb1 hrow1
  go_wp2_with fail
  go_loopg [13] 8 (fun n i wr => ∃ j : Nat, n = 8 - j ∧ j ≤ 8 ∧ i = .int .i64 j ∧ Hid (MRow wr w.heap.size wr.heap.size w.heap.size (I.take j ++ List.replicate (I.length - j) [])) ∧ Hid (Below w.heap.size w wr))
  case atStart => exact ⟨0, rfl, Nat.zero_le _, rfl, by simpa using Hrow1, Hb1⟩
  case round =>
    obtain ⟨j, rfl, hj, rfl, Hrow, Hb⟩ := hrel
    have hs := Hb.out.size
    by_cases hlt : j < 8
    · have hlt' : (j : Int) < 8 := by omega
      have Hst := Lib.hid (halfM_set (HN.out j hlt))
      have hjN : j < I.length := by have := HNl.out; omega
      have Hj := Lib.hid (fun w => Hb0.out j hlt w)
      generalize basisL 3 (j : Int) = r at *
      go_wp2_with fail
      refine (Hj.out _).mono ?_
      rintro e w2 ⟨v, rfl, hds, hb2⟩
      have hr2 := Hrow.out.block (hb2.block _ Hrow.out.lt) fun k _ _ hk => hb2.block k hk
      have f1 := fun o => hr2.free o
      obtain ⟨a9, c9, e0, -⟩ := hr2.cell (halfM_at hjN)
      have hgl := Nat.lt_of_lt_of_le Hrow.out.lt hb2.size
      have hr3 := Hrow.out.put (j := j) (by simp; omega) hds.upto hs hb2.size fun k hk => hb2.block k hk
      rw [Hst.out] at hr3
      have Hr3 := Lib.hid hr3
      have Hb2 := Lib.hid (Hb.out.trans (hb2.mono hs))
      obtain ⟨a2, cap3, rfl, _⟩ := hds
      clear hr3 hr2 hb2 Hrow Hj Hb0 HN
      go_wp2_with fail
      go_roundg (8 - (j + 1))
      case measure => omega
      case rel =>
        refine ⟨j + 1, rfl, by omega, by go_num, by simpa using Hr3, ?_⟩
        have := Hb2.out
        show Below _ _ _
        go_grown
    · obtain rfl : j = 8 := by omega
      have hrow := Hrow.out
      have HD := Lib.hid (show DSM wr w.heap.size wr.heap.size (.slice (some ⟨w.heap.size, 0, none⟩) 8 8) I from ⟨_, _, by rw [HNl.out], by rw [HNl.out]; exact Nat.le_refl _, fun _ => ⟨_, rfl, Nat.le_refl _, hrow.lt, by
        have h16 := hrow
        rw [← HNl.out, List.take_length, Nat.sub_self] at h16
        simpa using h16⟩⟩)
      clear hrow Hrow
      go_wp2_with fail
      go_ret
      exact ⟨_, rfl, HD.out, Hb.out⟩
set_option maxRecDepth 100000 in
set_option maxHeartbeats 3200000 in
theorem iident4 (w : World) :
    Calls Tryz.prog 41 #[.int .i64 4] w fun e w' => ∃ u, e = .returned u ∧ DSM w' w.heap.size w'.heap.size u (idM 4) ∧ Below w.heap.size w w' := by
  obtain ⟨i0, hi, hz0, hz1, hz2⟩ := info_parts infoDs
  have Hq := Lib.hid (fun w => iisq_yes 4 w (by decide))
  have Hb0 := Lib.hid (fun (j : Nat) (hj : j < 16) w => ibasis 4 j w (by decide) (by decide) (by omega) (by omega))
  have HN := Lib.hid (fun (j : Nat) (hj : j < 16) => idM_get (n := 4) (by decide) (j := j) hj)
  have HNl := Lib.hid (show (idM 4).length = 16 from idM_len (by decide))
  generalize idM 4 = I at *
  go_enter Tryz.func41, Tryz.ntmps41
  go_wp2_with fail
  refine (Hq.out _).mono ?_
  rintro e w0 ⟨rfl, rfl⟩
  go_wp2_with (first | (at_make; refine wpList_make_full _ rfl _ _ 32 rfl w.heap.size 59 i0 (.slice none 0 0) 1 Tryz.underlying32 hi hz0 hz1 .i64 .i64 16 16 16 rfl rfl rfl rfl (by rw [hz2]; omega) (by unfold maxLen; omega) (Nat.le_refl _) ?_))
  intro w1 hown hgrow
  have hb1 : Below w.heap.size w w1 := (Below.refl _ _).grown hgrow (Nat.le_refl _) (fun k hk => by cases hk)
  have hrow1 : MRow w1 w.heap.size w1.heap.size w.heap.size (List.replicate 16 []) := by
    rcases hown.2 with ⟨h, _⟩ | ⟨g, cap, cur, hv, hb, hg, _, _, hs, ht⟩
    · cases h
    · obtain ⟨rfl, rfl⟩ : g = w.heap.size ∧ cap = 16 := by injection hv with hv _ hv2; injection hv with hv; injection hv with hv; exact ⟨hv.symm, hv2.symm⟩
      refine ⟨cur, _, hg, ?_, rows_nil (n := 16)⟩
      rw [List.length_replicate, ← made_slices 16]
      first | exact ht | simpa using ht
  rw [← HNl.out] at hrow1
  have Hb1 := Lib.hid hb1
  have Hrow1 := Lib.hid hrow1
  clear hown hgrow hb1 hrow1
  go_wp2_with fail
  go_loopg [13] 16 (fun n i wr => ∃ j : Nat, n = 16 - j ∧ j ≤ 16 ∧ i = .int .i64 j ∧ Hid (MRow wr w.heap.size wr.heap.size w.heap.size (I.take j ++ List.replicate (I.length - j) [])) ∧ Hid (Below w.heap.size w wr))
  case atStart => exact ⟨0, rfl, Nat.zero_le _, rfl, by simpa using Hrow1, Hb1⟩
  case round =>
    obtain ⟨j, rfl, hj, rfl, Hrow, Hb⟩ := hrel
    have hs := Hb.out.size
    by_cases hlt : j < 16
    · have hlt' : (j : Int) < 16 := by omega
      have Hst := Lib.hid (halfM_set (HN.out j hlt))
      have hjN : j < I.length := by have := HNl.out; omega
      have Hj := Lib.hid (fun w => Hb0.out j hlt w)
      generalize basisL 4 (j : Int) = r at *
      go_wp2_with fail
      refine (Hj.out _).mono ?_
      rintro e w2 ⟨v, rfl, hds, hb2⟩
      have hr2 := Hrow.out.block (hb2.block _ Hrow.out.lt) fun k _ _ hk => hb2.block k hk
      have f1 := fun o => hr2.free o
      obtain ⟨a9, c9, e0, -⟩ := hr2.cell (halfM_at hjN)
      have hgl := Nat.lt_of_lt_of_le Hrow.out.lt hb2.size
      have hr3 := Hrow.out.put (j := j) (by simp; omega) hds.upto hs hb2.size fun k hk => hb2.block k hk
      rw [Hst.out] at hr3
      have Hr3 := Lib.hid hr3
      have Hb2 := Lib.hid (Hb.out.trans (hb2.mono hs))
      obtain ⟨a2, cap3, rfl, _⟩ := hds
      clear hr3 hr2 hb2 Hrow Hj Hb0 HN
      go_wp2_with fail
      go_roundg (16 - (j + 1))
      case measure => omega
      case rel =>
        refine ⟨j + 1, rfl, by omega, by go_num, by simpa using Hr3, ?_⟩
        have := Hb2.out
        show Below _ _ _
        go_grown
    · obtain rfl : j = 16 := by omega
      have hrow := Hrow.out
      have HD := Lib.hid (show DSM wr w.heap.size wr.heap.size (.slice (some ⟨w.heap.size, 0, none⟩) 16 16) I from ⟨_, _, by rw [HNl.out], by rw [HNl.out]; exact Nat.le_refl _, fun _ => ⟨_, rfl, Nat.le_refl _, hrow.lt, by
        have h16 := hrow
        rw [← HNl.out, List.take_length, Nat.sub_self] at h16
        simpa using h16⟩⟩)
      clear hrow Hrow
      go_wp2_with fail
      go_ret
      exact ⟨_, rfl, HD.out, Hb.out⟩
theorem iident (n : Int) (w : World) (n0 : -9223372036854775808 ≤ n) (n1 : n ≤ 9223372036854775807) :
    Calls Tryz.prog 41 #[.int .i64 n] w fun e w' => ∃ v, e = .returned v ∧ DSM w' w.heap.size w'.heap.size v (idM n) ∧ Below w.heap.size w w' := by
  by_cases h : 1 ≤ n ∧ n ≤ 4
  · rcases (show n = 1 ∨ n = 2 ∨ n = 3 ∨ n = 4 by omega) with rfl | rfl | rfl | rfl
    · exact iident1 w
    · exact iident2 w
    · exact iident3 w
    · exact iident4 w
  · rw [idM_no h]
    have Hq := Lib.hid (fun w => iisq_no n w h n0 n1)
    clear h n0 n1
    go_enter Tryz.func41, Tryz.ntmps41
    go_wp2_with fail
    refine (Hq.out _).mono ?_
    rintro e w0 ⟨rfl, rfl⟩
    go_wp2_with fail
    go_ret
    exact ⟨_, rfl, DSM.nil, Below.refl _ _⟩
end Go.Proofs.YtlmiebeffdcfhaaGreat
namespace Go.Proofs.YtlmiebeffdcfhaaGreat
/-- What a controlled gate's coefficients are, over the same power. -/
def ctC (q : Nat) (s : Nat) (C : Nat → Nat → Zw) (i j : Nat) : Zw := if bitN i q then C i j else if i = j then rootN s oneZ else .zero
def ctOk (q : Nat) (k : Int) (A B : Nat) : Bool := (List.range 16).all fun i => (List.range 16).all fun j =>
  decide (co (pth (ctL q ⟨k, A, B, 0⟩) i) j = rootN (hs (ctL q ⟨k, A, B, 0⟩) - scK k) (ctC q (scK k) (fun i j => co (pth [⟨k, A, B, 0⟩] i) j) i j)) && (bitN i q == bitN j q || decide (co (pth [⟨k, A, B, 0⟩] i) j = .zero))
theorem ct_1 : ([1, 2, 3, 4, 5, 6] : List Int).all (fun k => (List.range 4).all fun q => (List.range 4).all fun A => A == q || ctOk q k A 0) = true := by decide +kernel
theorem ct_2 : ([9, 10, 11] : List Int).all (fun k => (List.range 4).all fun q => (List.range 4).all fun A => (List.range 4).all fun B => A == q || B == q || A == B || ctOk q k A B) = true := by decide +kernel
theorem Rep.scale {M : List (List Dw)} {N s : Nat} {C : Nat → Nat → Zw} (h : Rep M N s C) (t : Nat) : Rep M N (s + t) fun i k => rootN t (C i k) :=
  ⟨h.1, h.2.1, fun k hk i hi => by rw [rootN_add, h.2.2 k hk i hi, rootN_comm]⟩
theorem ct_rep {M : List (List Dw)} {N s q : Nat} {C : Nat → Nat → Zw} (h : Rep M N s C) : Rep (ctV q M) N s (ctC q s C) := by
  have hl := h.1
  have hget : ∀ k, k < N → (ctV q M).getD k [] = (List.range N).map fun i => if bitN i q then (M.getD k []).getD i .zero else if i = k then oneD else .zero := fun k hk => by
    unfold ctV
    rw [hl, List.getD_eq_getElem?_getD, List.getElem?_map, List.getElem?_range hk]
    rfl
  have hent : ∀ k, k < N → ∀ i, i < N → ((ctV q M).getD k []).getD i .zero = if bitN i q then (M.getD k []).getD i .zero else if i = k then oneD else .zero := fun k hk i hi => by
    rw [hget k hk, List.getD_eq_getElem?_getD, List.getElem?_map, List.getElem?_range hi]
    rfl
  refine ⟨by unfold ctV; rw [List.length_map, List.length_range, hl], fun r hr => ?_, fun k hk i hi => ?_⟩
  · unfold ctV at hr
    obtain ⟨k, hk, rfl⟩ := List.mem_map.1 hr
    rw [hl, List.mem_range] at hk
    refine ⟨by rw [List.length_map, List.length_range, hl], fun x hx => ?_⟩
    obtain ⟨i, hi, rfl⟩ := List.mem_map.1 hx
    split
    · obtain ⟨r, _, e, _, ho⟩ := h.row hk
      rw [e]
      exact getD_ok ho i
    · split
      · exact oneD_ok
      · exact zero_ok
  · rw [hent k hk i hi]
    unfold ctC
    split
    · exact h.2.2 k hk i hi
    · split
      · rw [vl_one, rootN_comm]; rfl
      · rw [vl_zero, rootN_z, rootN_z]
theorem gt_ccx_all : ∀ q : Fin 4, ∀ a : Fin 4, ∀ b : Fin 4, q.val ≠ a.val → q.val ≠ b.val → a.val ≠ b.val → gtB ⟨12, (q.val : Nat), (a.val : Nat), (b.val : Nat)⟩ 4 = true := by decide +kernel
theorem gt_ccx {q a b : Int} (hq : 0 ≤ q ∧ q < 4) (ha : 0 ≤ a ∧ a < 4) (hb : 0 ≤ b ∧ b < 4) (h1 : q ≠ a) (h2 : q ≠ b) (h3 : a ≠ b) : gtB ⟨12, q, a, b⟩ 4 = true := by
  have h := gt_ccx_all ⟨q.toNat, by omega⟩ ⟨a.toNat, by omega⟩ ⟨b.toNat, by omega⟩ (by simp only; omega) (by simp only; omega) (by simp only; omega)
  simp only at h
  rw [show ((q.toNat : Nat) : Int) = q by omega, show ((a.toNat : Nat) : Int) = a by omega, show ((b.toNat : Nat) : Int) = b by omega] at h
  exact h
theorem gt_cz_all : ∀ q : Fin 4, ∀ a : Fin 4, q.val ≠ a.val → gtB ⟨10, (q.val : Nat), (a.val : Nat), 0⟩ 4 = true := by decide +kernel
theorem gt_cz {q a : Int} (hq : 0 ≤ q ∧ q < 4) (ha : 0 ≤ a ∧ a < 4) (h1 : q ≠ a) : gtB ⟨10, q, a, 0⟩ 4 = true := by
  have h := gt_cz_all ⟨q.toNat, by omega⟩ ⟨a.toNat, by omega⟩ (by simp only; omega)
  simp only at h
  rw [show ((q.toNat : Nat) : Int) = q by omega, show ((a.toNat : Nat) : Int) = a by omega] at h
  exact h
theorem gqs_one {g : Gt} (h : 1 ≤ g.k ∧ g.k ≤ 8) : gqs g = [g.a] := by unfold gqs ar; rw [if_pos h]; rfl
theorem gqs_two {g : Gt} (h : 9 ≤ g.k ∧ g.k ≤ 11) : gqs g = [g.a, g.b] := by unfold gqs ar; rw [if_neg (by omega), if_pos h]; rfl
theorem ct_parts {g : Gt} {q : Int} (hg : gtB g 4 = true) (hn : q ∉ gqs g) (hk : ctK g.k = true) : q ≠ g.a ∧ (9 ≤ g.k → q ≠ g.b ∧ g.a ≠ g.b) := by
  have hkd := gtB_kinds hg
  have hk' := of_decide_eq_true hk
  rcases hk' with h | h
  · rw [gqs_one (by omega)] at hn
    simp only [List.mem_singleton] at hn
    exact ⟨hn, fun h9 => by omega⟩
  · rw [gqs_two h] at hn
    simp only [List.mem_cons, List.not_mem_nil, or_false, not_or] at hn
    exact ⟨hn.1, fun _ => ⟨hn.2, by omega⟩⟩
theorem ct_valid {g : Gt} {q : Int} (hg : gtB g 4 = true) (hq : 0 ≤ q ∧ q < 4) (hn : q ∉ gqs g) (hk : ctK g.k = true) : (∀ x ∈ ctL q g, gtB x 4 = true) ∧ hs (ctL q g) ≤ 2 ∧ scK g.k ≤ hs (ctL q g) := by
  obtain ⟨-, -, ha, hb, hc⟩ := gtB_parts hg
  obtain ⟨hqa, h9⟩ := ct_parts hg hn hk
  have hk' := of_decide_eq_true hk
  have a1 := fun k (hk : 1 ≤ k ∧ k ≤ 8) => gt_one (n := 4) (by decide) hk ha
  have b1 := fun k (hk : 1 ≤ k ∧ k ≤ 8) => gt_one (n := 4) (by decide) hk hb
  have q1 := fun k (hk : 1 ≤ k ∧ k ≤ 8) => gt_one (n := 4) (by decide) hk hq
  have x1 := gt_cx (n := 4) (by decide) hq ha hqa
  have x2 := gt_cz hq ha hqa
  have x3 : 9 ≤ g.k → gtB ⟨12, q, g.a, g.b⟩ 4 = true := fun h => gt_ccx hq ha hb hqa (h9 h).1 (h9 h).2
  have x4 : 9 ≤ g.k → gtB ⟨9, g.b, g.a, 0⟩ 4 = true := fun h => gt_cx (n := 4) (by decide) hb ha fun e => (h9 h).2 e.symm
  unfold ctL
  split
  · rename_i e; rw [e]; exact ⟨by simpa using x1, by simp [hs, scK], by simp [hs, scK]⟩
  · split
    · rename_i e; rw [e]; exact ⟨by simpa using ⟨a1 6 (by decide), x1, a1 5 (by decide)⟩, by simp [hs, scK], by simp [hs, scK]⟩
    · split
      · rename_i e; rw [e]; exact ⟨by simpa using x2, by simp [hs, scK], by simp [hs, scK]⟩
      · split
        · rename_i e; rw [e]; exact ⟨by simpa using ⟨a1 6 (by decide), a1 4 (by decide), a1 8 (by decide), x1, a1 7 (by decide), a1 4 (by decide), a1 5 (by decide)⟩, by simp [hs, scK], by simp [hs, scK]⟩
        · split
          · rename_i e; rw [e]; exact ⟨by simpa using ⟨q1 7 (by decide), a1 7 (by decide), x1, a1 8 (by decide), x1⟩, by simp [hs, scK], by simp [hs, scK]⟩
          · split
            · rename_i e; rw [e]; exact ⟨by simpa using ⟨q1 8 (by decide), a1 8 (by decide), x1, a1 7 (by decide), x1⟩, by simp [hs, scK], by simp [hs, scK]⟩
            · split
              · rename_i e; rw [e]; exact ⟨by simpa using x3 (by omega), by simp [hs, scK], by simp [hs, scK]⟩
              · split
                · rename_i e; rw [e]; exact ⟨by simpa using ⟨b1 4 (by decide), x3 (by omega), b1 4 (by decide)⟩, by simp [hs, scK], by simp [hs, scK]⟩
                · split
                  · rename_i e; rw [e]; exact ⟨by simpa using ⟨x4 (by omega), x3 (by omega), x4 (by omega)⟩, by simp [hs, scK], by simp [hs, scK]⟩
                  · omega
theorem ct_co {g : Gt} {q : Int} (hg : gtB g 4 = true) (hq : 0 ≤ q ∧ q < 4) (hn : q ∉ gqs g) (hk : ctK g.k = true) {i j : Nat} (hi : i < 16) (hj : j < 16) :
    co (pth (ctL q g) i) j = rootN (hs (ctL q g) - scK g.k) (ctC q.toNat (scK g.k) (fun i j => co (pth [g] i) j) i j) ∧ (bitN i q.toNat ≠ bitN j q.toNat → co (pth [g] i) j = .zero) := by
  obtain ⟨-, -, ha, hb, hc⟩ := gtB_parts hg
  obtain ⟨hqa, h9⟩ := ct_parts hg hn hk
  have hkd := gtB_kinds hg
  have hk' := of_decide_eq_true hk
  have use : ∀ {q : Nat} {k : Int} {A B : Nat}, ctOk q k A B = true → co (pth (ctL q ⟨k, A, B, 0⟩) i) j = rootN (hs (ctL q ⟨k, A, B, 0⟩) - scK k) (ctC q (scK k) (fun i j => co (pth [⟨k, A, B, 0⟩] i) j) i j) ∧ (bitN i q ≠ bitN j q → co (pth [⟨k, A, B, 0⟩] i) j = .zero) := fun h => by
    have h1 := List.all_eq_true.1 (List.all_eq_true.1 h i (List.mem_range.2 hi)) j (List.mem_range.2 hj)
    rw [Bool.and_eq_true, Bool.or_eq_true] at h1
    exact ⟨of_decide_eq_true h1.1, fun hne => by
      rcases h1.2 with h2 | h2
      · exact absurd (eq_of_beq h2) hne
      · exact of_decide_eq_true h2⟩
  obtain ⟨k, a, b, c⟩ := g
  simp only at ha hb hc hkd hqa h9 hk' ⊢
  obtain ⟨a, rfl⟩ := Int.eq_ofNat_of_zero_le ha.1
  obtain ⟨b, rfl⟩ := Int.eq_ofNat_of_zero_le hb.1
  obtain ⟨q, rfl⟩ := Int.eq_ofNat_of_zero_le hq.1
  obtain rfl : c = 0 := by omega
  rw [Int.toNat_natCast]
  by_cases h6 : k ≤ 6
  · obtain rfl : b = 0 := by omega
    have hm : k ∈ ([1, 2, 3, 4, 5, 6] : List Int) := by
      rcases (show k = 1 ∨ k = 2 ∨ k = 3 ∨ k = 4 ∨ k = 5 ∨ k = 6 by omega) with rfl | rfl | rfl | rfl | rfl | rfl <;> decide
    have h5 := List.all_eq_true.1 (List.all_eq_true.1 (List.all_eq_true.1 ct_1 k hm) q (List.mem_range.2 (by omega))) a (List.mem_range.2 (by omega))
    rw [Bool.or_eq_true] at h5
    rcases h5 with h5 | h5
    · exact absurd (eq_of_beq h5) (by omega)
    · exact use h5
  · have hm : k ∈ ([9, 10, 11] : List Int) := by
      rcases (show k = 9 ∨ k = 10 ∨ k = 11 by omega) with rfl | rfl | rfl <;> decide
    have h99 := h9 (by omega)
    have h5 := List.all_eq_true.1 (List.all_eq_true.1 (List.all_eq_true.1 (List.all_eq_true.1 ct_2 k hm) q (List.mem_range.2 (by omega))) a (List.mem_range.2 (by omega))) b (List.mem_range.2 (by omega))
    rw [Bool.or_eq_true, Bool.or_eq_true, Bool.or_eq_true] at h5
    rcases h5 with ((h5 | h5) | h5) | h5
    · exact absurd (eq_of_beq h5) (by omega)
    · exact absurd (eq_of_beq h5) (by omega)
    · exact absurd (eq_of_beq h5) (by omega)
    · exact use h5
/-- A controlled gate's circuit performs the controlled matrix. -/
theorem ct_cir {g : Gt} {q : Int} (hg : gtB g 4 = true) (hq : 0 ≤ q ∧ q < 4) (hn : q ∉ gqs g) (hk : ctK g.k = true) (hL : cirB (ctL q g) 4 = true) (hG : cirB [g] 4 = true) : cirM (ctL q g) 4 = ctV q.toNat (cirM [g] 4) := by
  obtain ⟨hv, h2, hsc⟩ := ct_valid hg hq hn hk
  have hv1 : ∀ x ∈ [g], gtB x 4 = true := fun x hx => by rw [List.mem_singleton] at hx; subst hx; exact hg
  have hq4 : qc (2 ^ 4) = 4 := by decide
  have hv' : ∀ x ∈ ctL q g, gtB x (qc (2 ^ 4)) = true := by rw [hq4]; exact hv
  have hv1' : ∀ x ∈ [g], gtB x (qc (2 ^ 4)) = true := by rw [hq4]; exact hv1
  have r1 := cir_rep1 (n := 4) (by decide) (by decide) hv hL
  have r0 := cir_rep1 (n := 4) (by decide) (by decide) hv1 hG
  have hs1 : hs [g] = scK g.k := by simp [hs]
  rw [hs1] at r0
  have r2 := (ct_rep (q := q.toNat) r0).scale (hs (ctL q g) - scK g.k)
  rw [Nat.add_sub_cancel' hsc] at r2
  refine r1.eq r2 fun i hi j hj => ?_
  have hi' : i < 16 := hi
  have hj' : j < 16 := hj
  have hc := (ct_co hg hq hn hk hi' hj').1
  have e1 := cl1_pth hv' i hi j hj
  have e2 := cl1_pth hv1' i hi j hj
  rw [e1, hc]
  unfold ctC
  rw [e2]
theorem rootN_0 (x : Zw) : rootN 0 x = x := rfl
theorem ct_one {g : Gt} {q : Int} (h : ctCan q g) {i j : Nat} (hi : i < 16) (hj : j < 16) : cl1 16 (ctL q g) i j = rootN (hs (ctL q g) - scK g.k) (ctC q.toNat (scK g.k) (cl1 16 [g]) i j) ∧ (bitN i q.toNat ≠ bitN j q.toNat → cl1 16 [g] i j = .zero) ∧ scK g.k ≤ hs (ctL q g) := by
  obtain ⟨hg, hq, hn, hk⟩ := h
  obtain ⟨hv, -, hsc⟩ := ct_valid hg hq hn hk
  have hq4 : qc 16 = 4 := by decide
  have hv' : ∀ x ∈ ctL q g, gtB x (qc 16) = true := by rw [hq4]; exact hv
  have hv1' : ∀ x ∈ [g], gtB x (qc 16) = true := by rw [hq4]; intro x hx; rw [List.mem_singleton] at hx; subst hx; exact hg
  have hc := ct_co hg hq hn hk hi hj
  have e1 := cl1_pth hv' i hi j hj
  have e2 := cl1_pth hv1' i hi j hj
  refine ⟨?_, fun hne => by rw [e2]; exact hc.2 hne, hsc⟩
  rw [e1, hc.1]
  unfold ctC
  rw [e2]
theorem ct_list {q : Int} : ∀ (L : List Gt), (∀ g ∈ L, ctCan q g) → hs L ≤ hs (ctLL q L) ∧ ∀ i, i < 16 → ∀ j, j < 16 → cl1 16 (ctLL q L) i j = rootN (hs (ctLL q L) - hs L) (ctC q.toNat (hs L) (cl1 16 L) i j) ∧ (bitN i q.toNat ≠ bitN j q.toNat → cl1 16 L i j = .zero)
  | [], _ => by
    refine ⟨Nat.le_refl _, fun i hi j hj => ⟨?_, fun h => ?_⟩⟩
    · rw [show ctLL q [] = [] from rfl, Nat.sub_self, rootN_0, cl1]
      unfold ctC
      rw [cl1, show hs [] = 0 from rfl, rootN_0]
      cases bitN i q.toNat <;> rfl
    · rw [cl1, if_neg fun e => h (by rw [e])]
  | g :: L, h => by
    obtain ⟨hL, ih⟩ := ct_list L fun x hx => h x (List.mem_cons_of_mem _ hx)
    have hg := h g (List.mem_cons_self ..)
    have hsg := (ct_one hg (i := 0) (j := 0) (by decide) (by decide)).2.2
    have e1 : ctLL q (g :: L) = ctL q g ++ ctLL q L := rfl
    refine ⟨by rw [e1, hs_appL, hs_cons]; omega, fun i hi j hj => ?_⟩
    have hz : ∀ m, m < 16 → bitN i q.toNat ≠ bitN m q.toNat → cl1 16 [g] i m = .zero := fun m hm => (ct_one hg hi hm).2.1
    constructor
    · rw [e1, cl1_app 16 _ _ i j hi, hs_appL, hs_cons]
      have hk : hs (ctL q g) + hs (ctLL q L) - (scK g.k + hs L) = (hs (ctL q g) - scK g.k) + (hs (ctLL q L) - hs L) := by omega
      rw [hk]
      have hsum : (sumZ 16 fun m => (cl1 16 (ctL q g) i m).mul (cl1 16 (ctLL q L) m j)) = rootN ((hs (ctL q g) - scK g.k) + (hs (ctLL q L) - hs L)) (sumZ 16 fun m => (ctC q.toNat (scK g.k) (cl1 16 [g]) i m).mul (ctC q.toNat (hs L) (cl1 16 L) m j)) := by
        rw [rootN_sumZ]
        refine sumZ_congr fun m hm => ?_
        rw [(ct_one hg hi hm).1, (ih m hm j hj).1, ← rootN_mul2]
      rw [hsum]
      refine congrArg (rootN _) ?_
      cases hb : bitN i q.toNat with
      | false =>
        rw [sumZ_one (fun m => (ctC q.toNat (scK g.k) (cl1 16 [g]) i m).mul (ctC q.toNat (hs L) (cl1 16 L) m j)) hi fun m hm hne => by
          unfold ctC; rw [hb, if_neg (by decide), if_neg fun e => hne e.symm, zero_mul']]
        have h1 : ctC q.toNat (scK g.k) (cl1 16 [g]) i i = rootN (scK g.k) oneZ := by unfold ctC; rw [hb, if_neg (by decide), if_pos rfl]
        have h2 : ∀ (s : Nat) (C : Nat → Nat → Zw), ctC q.toNat s C i j = if i = j then rootN s oneZ else .zero := fun s C => by unfold ctC; rw [hb, if_neg (by decide)]
        rw [h1, h2, h2]
        by_cases e : i = j
        · rw [if_pos e, if_pos e, ← rootN_mul2, oneZ_mul]
        · rw [if_neg e, if_neg e, mul_zero']
      | true =>
        unfold ctC
        rw [hb, if_pos rfl, show g :: L = [g] ++ L from rfl, cl1_app 16 [g] L i j hi]
        refine sumZ_congr fun m hm => ?_
        rw [if_pos rfl]
        cases hbm : bitN m q.toNat with
        | true => rw [if_pos rfl]
        | false => rw [hz m hm (by rw [hb, hbm]; decide), zero_mul', zero_mul']
    · intro hne
      rw [show g :: L = [g] ++ L from rfl, cl1_app 16 [g] L i j hi]
      have : ∀ m, m < 16 → (cl1 16 [g] i m).mul (cl1 16 L m j) = Zw.zero := fun m hm => by
        by_cases hb : bitN i q.toNat = bitN m q.toNat
        · rw [(ih m hm j hj).2 (fun e => hne (hb.trans e)), mul_zero']
        · rw [hz m hm hb, zero_mul']
      rw [sumZ_congr this, sumZ_zero]
theorem ct_valids {q : Int} {L : List Gt} (h : ∀ g ∈ L, ctCan q g) : (∀ x ∈ ctLL q L, gtB x 4 = true) ∧ ∀ x ∈ L, gtB x 4 = true :=
  ⟨fun x hx => by
    obtain ⟨g, hg, hy⟩ := List.mem_flatMap.1 hx
    obtain ⟨a, b, c, d⟩ := h g hg
    exact (ct_valid a b c d).1 x hy, fun x hx => (h x hx).1⟩
/-- A controlled sequence performs the controlled matrix. -/
theorem ct_all {q : Int} {L : List Gt} (h : ∀ g ∈ L, ctCan q g) (hL : cirB (ctLL q L) 4 = true) (hG : cirB L 4 = true) : cirM (ctLL q L) 4 = ctV q.toNat (cirM L 4) := by
  obtain ⟨hv, hv1⟩ := ct_valids h
  obtain ⟨hle, hc⟩ := ct_list L h
  have r1 := cir_rep1 (n := 4) (by decide) (by decide) hv hL
  have r0 := cir_rep1 (n := 4) (by decide) (by decide) hv1 hG
  have r2 := (ct_rep (q := q.toNat) r0).scale (hs (ctLL q L) - hs L)
  rw [Nat.add_sub_cancel' hle] at r2
  exact r1.eq r2 fun i hi j hj => (hc i hi j hj).1
theorem ct_mb {q : Int} {L : List Gt} (hq : 0 ≤ q ∧ q < 4) (h : ∀ g ∈ L, ctCan q g) (hG : cirB L 4 = true) : ctMB q (cirM L 4) = true := by
  obtain ⟨hv, hv1⟩ := ct_valids h
  obtain ⟨hle, hc⟩ := ct_list L h
  have r0 := cir_rep1 (n := 4) (by decide) (by decide) hv1 hG
  have hl : (cirM L 4).length = 16 := r0.1
  unfold ctMB
  rw [rep_mt r0 (by decide) (by decide), Bool.true_and, hl, decide_eq_true (show 0 ≤ q ∧ q ≤ qc 16 - 1 from ⟨hq.1, by rw [show qc 16 = 4 by decide]; omega⟩), Bool.true_and, List.all_eq_true]
  intro i hi
  rw [List.all_eq_true]
  intro k hk
  rw [List.mem_range] at hi hk
  rw [Bool.or_eq_true]
  by_cases e : bitN i q.toNat = bitN k q.toNat
  · exact .inl (by rw [e]; exact beq_self_eq_true _)
  · refine .inr (decide_eq_true ?_)
    have hz := (hc k hk i hi).2 fun x => e x.symm
    have hv2 := r0.2.2 i hi k hk
    rw [hz, rootN_z] at hv2
    obtain ⟨r, _, er, _, ho⟩ := r0.row hi
    rw [er] at hv2 ⊢
    refine vl_inj (getD_ok ho k) zero_ok ?_
    rw [vl_zero]
    apply rootN_inj (k := hs L)
    rw [hv2, rootN_z]
end Go.Proofs.YtlmiebeffdcfhaaGreat
namespace Go.Proofs.YtlmiebeffdcfhaaGreat
end Go.Proofs.YtlmiebeffdcfhaaGreat
namespace Go.Proofs.YtlmiebeffdcfhaaGreat
open Go.RowKit
attribute [local irreducible] World.cell?
end Go.Proofs.YtlmiebeffdcfhaaGreat
namespace Go.Proofs.YtlmiebeffdcfhaaGreat
open Go.RowKit
attribute [local irreducible] World.cell?
theorem mix_at {X Y : List (List Dw)} {j : Nat} (hX : j < X.length) {r : List Dw} (hr : Y[j]? = some r) : (X.take j ++ Y.drop j)[j]? = some r := by
  rw [List.getElem?_append_right (by simp; omega), List.getElem?_drop]
  rw [show j + (j - (X.take j).length) = j by simp; omega]
  exact hr
theorem mix_set {X Y : List (List Dw)} {j : Nat} (hl : X.length = Y.length) {r : List Dw} (hr : X[j]? = some r) : (X.take j ++ Y.drop j).set j r = X.take (j + 1) ++ Y.drop (j + 1) := by
  have h : j < X.length := by
    rcases Nat.lt_or_ge j X.length with h' | h'
    · exact h'
    · rw [List.getElem?_eq_none h'] at hr; cases hr
  have e : Y.drop j = Y[j]'(by omega) :: Y.drop (j + 1) := (List.getElem_cons_drop ..).symm
  rw [List.set_append_right _ _ (by simp; omega), show j - (X.take j).length = 0 by simp; omega, e, List.set_cons_zero, List.take_add_one, hr, List.append_assoc]
  rfl
def mapX (n : Nat) (r : Nat → List Dw) : List (List Dw) := (List.range n).map r
theorem mapX_len (n : Nat) (r : Nat → List Dw) : (mapX n r).length = n := by rw [mapX, List.length_map, List.length_range]
theorem mapX_get {n : Nat} {r : Nat → List Dw} {j : Nat} (hj : j < n) : (mapX n r)[j]? = some (r j) := by
  rw [mapX, List.getElem?_map, List.getElem?_range hj]; rfl
set_option maxRecDepth 100000 in
set_option maxHeartbeats 6400000 in
theorem imapC (F : Nat) (C : Array Value) (eF : ∀ args w, (callFunc F args).run Tryz.prog w = .ok (.enter F args) w) (R S : Nat) (u : Value) (B : List (List Dw)) (t : Nat → Bool) (r : Nat → List Dw) (w : World) (hu : DSM w R S u B) (hk : ∀ r ∈ B, B.length ≤ r.length) (hn : B.length ≤ 1048576) (hr : ∀ k, k < B.length → t k = true → (r k).length = B.length)
    (hF : ∀ k, k < B.length → ∀ D c W, Below w.heap.size w W → DSl W D c (col B k) → Calls Tryz.prog F (#[c] ++ C) W fun e w' => (∃ q, e = .returned (.tuple #[q, .bool (t k)]) ∧ DSl w' W.heap.size q (r k)) ∧ Below W.heap.size W w') :
    Calls Tryz.prog 79 #[u, .func (.func F) #[] C] w fun e w' => (∃ v, e = .returned (.tuple #[v, .bool ((List.range B.length).all t)]) ∧ DSM w' w.heap.size w'.heap.size v (if (List.range B.length).all t = true then colsM (mapX B.length r) else [])) ∧ Below w.heap.size w w' := by
  have H2 := Lib.hid (fun W (h : DSM W R S u B) => itrans R S u B W h hk hn)
  have HF := Lib.hid hF
  have Hu := Lib.hid hu
  obtain ⟨SB, hSB⟩ : ∃ SB, SB = (List.range B.length).all t := ⟨_, rfl⟩
  obtain ⟨SL, hSL⟩ : ∃ SL, SL = if SB = true then colsM (mapX B.length r) else [] := ⟨_, rfl⟩
  rw [← hSB, ← hSL]
  have HSB := Lib.hid hSB
  have HSL := Lib.hid hSL
  have Hlen := Lib.hid hr
  have HX := Lib.hid (fun (j : Nat) (hj : j < B.length) => mapX_get (r := r) hj)
  have HY := Lib.hid (fun (j : Nat) (hj : j < B.length) => colsM_get (L := B) hj)
  have HXl := Lib.hid (mapX_len B.length r)
  have HYl := Lib.hid (colsM_len B)
  have HT := Lib.hid (fun (D E : Nat) (c : Value) W (h : DSM W D E c (mapX B.length r)) (hr : ∀ x ∈ mapX B.length r, (mapX B.length r).length ≤ x.length) => itrans D E c (mapX B.length r) W h hr (by rw [mapX_len]; exact hn))
  have HM := Lib.hid (fun x (h : x ∈ mapX B.length r) => List.mem_map.1 h)
  generalize mapX B.length r = X at *
  generalize colsM B = Y at *
  clear hSB hSL hF hr hk
  obtain ⟨a', cap', rfl, hcap', -⟩ := hu
  go_enter Tryz.func79, Tryz.ntmps79
  go_wp2_with fail
  refine (H2.out _ Hu.out).mono ?_
  rintro e w2 ⟨c, rfl, hdc, hb2⟩
  have Hb2 := Lib.hid hb2
  have hs2 := Hb2.out.size
  obtain ⟨ca, cc, rfl, hcc, hcr⟩ := hdc
  have Hcr := Lib.hid hcr
  rw [HYl.out] at hcc ⊢
  clear hb2 hcr H2
  go_wp2_with fail
  go_loopg [15] B.length (fun n i wr => ∃ j : Nat, n = B.length - j ∧ j ≤ B.length ∧ i = .int .i64 j ∧ Hid (0 < B.length → ∃ g, ca = some ⟨g, 0, none⟩ ∧ w.heap.size ≤ g ∧ MRow wr w.heap.size wr.heap.size g (X.take j ++ Y.drop j)) ∧ Hid (∀ k, k < j → t k = true) ∧ Hid (Below w.heap.size w wr) ∧ w2.heap.size ≤ wr.heap.size)
  case atStart => exact ⟨0, rfl, Nat.zero_le _, rfl, Lib.hid (fun h0 => by obtain ⟨g, e, h1, h2, h3⟩ := Hcr.out (by rw [HYl.out]; exact h0); exact ⟨g, e, h1, by simpa using h3⟩), Lib.hid (fun k hk => absurd hk (Nat.not_lt_zero _)), Hb2, Nat.le_refl _⟩
  case round =>
    obtain ⟨j, rfl, hj, rfl, Hrow, Hall, Hb, hsz⟩ := hrel
    have hs := Hb.out.size
    by_cases hlt : j < B.length
    · obtain ⟨g, rfl, hg1, hrow⟩ := Hrow.out (by omega)
      have hXj := HX.out j hlt
      have hjX : j < X.length := by have := HXl.out; omega
      obtain ⟨p, pc, c0, hd1⟩ := hrow.cell (mix_at hjX (HY.out j hlt))
      have hgl := hrow.lt
      have Hc := Lib.hid (HF.out j hlt _ _ wr Hb.out hd1.dsl)
      have Hst := Lib.hid (mix_set (X := X) (Y := Y) (by rw [HXl.out, HYl.out]) hXj)
      have Hat := Lib.hid (fun (h : t j = true) k (hk : k < j + 1) => by
        rcases Nat.lt_succ_iff_lt_or_eq.1 hk with h' | rfl
        · exact Hall.out k h'
        · exact h)
      have Hno := Lib.hid (fun (h : t j = false) => (show ((List.range B.length).all t) = false from by
        rw [List.all_eq_false]; exact ⟨j, List.mem_range.2 hlt, by rw [h]; decide⟩))
      have Hrw := Lib.hid hrow
      have hmix := mix_at hjX (HY.out j hlt)
      have HmixL := Lib.hid (show j < (X.take j ++ Y.drop j).length by
        rcases Nat.lt_or_ge j (X.take j ++ Y.drop j).length with k | k
        · exact k
        · rw [List.getElem?_eq_none k] at hmix; cases hmix)
      clear hd1 hrow hXj hmix
      generalize t j = tj at *
      generalize r j = rj at *
      go_wp2_with fail
      refine (Hc.out).mono ?_
      rintro e w3 ⟨⟨q, rfl, hdq⟩, hb3⟩
      have Hb3 := Lib.hid (Hb.out.trans (hb3.mono hs))
      have hs3 := Hb3.out.size
      cases tj with
      | false =>
        obtain rfl : SB = false := HSB.out.trans (Hno.out rfl)
        obtain rfl : SL = [] := HSL.out
        clear hdq hb3
        go_wp2_with fail
        go_returns
        exact ⟨⟨_, rfl, DSM.nil⟩, Hb3.out⟩
      | true =>
        have hr2 := Hrw.out.block (hb3.block _ Hrw.out.lt) fun k _ _ hk => hb3.block k hk
        have f1 := fun o => hr2.free o
        obtain ⟨a9, c9, e0, -⟩ := hr2.cell (mix_at hjX (HY.out j hlt))
        have hgl3 := Nat.lt_of_lt_of_le hgl hb3.size
        have hr3 := Hrw.out.put (j := j) HmixL.out hdq.upto (by omega) hb3.size fun k hk => hb3.block k hk
        rw [Hst.out] at hr3
        have Hr3 := Lib.hid hr3
        have hsz3 := Nat.le_trans hsz hb3.size
        obtain ⟨a2, cap3, rfl, -, -⟩ := hdq
        clear hr3 hr2 hb3 Hrow Hrw Hc Hb c0
        go_wp2_with fail
        go_roundg (B.length - (j + 1))
        case measure => omega
        case rel =>
          refine ⟨j + 1, rfl, by omega, by go_num, Lib.hid (fun _ => ⟨g, rfl, hg1, by simpa using Hr3.out⟩), Lib.hid (Hat.out trivial), ?_, by simpa using hsz3⟩
          have := Hb3.out
          show Below _ _ _
          go_grown
    · obtain rfl : j = B.length := by omega
      have hall : ((List.range B.length).all t) = true := by
        rw [List.all_eq_true]; exact fun k hk => Hall.out k (List.mem_range.1 hk)
      obtain rfl : SB = true := HSB.out.trans hall
      obtain rfl : SL = colsM X := HSL.out
      have hrow := Hrow.out
      have hd : DSM wr w.heap.size wr.heap.size (.slice ca B.length cc) X := ⟨_, _, by rw [HXl.out], by rw [HXl.out]; exact hcc, fun h0 => by
        rw [HXl.out] at h0
        obtain ⟨g, e, h1, h2⟩ := hrow h0
        refine ⟨g, e, h1, h2.lt, ?_⟩
        rw [List.take_of_length_le (by rw [HXl.out]; exact Nat.le_refl _), List.drop_of_length_le (by rw [HYl.out]; exact Nat.le_refl _), List.append_nil] at h2
        exact h2⟩
      have Hcs := Lib.hid (HT.out _ _ _ wr hd (fun r hr => by
        obtain ⟨k, hk, rfl⟩ := HM.out r hr
        rw [HXl.out, Hlen.out k (List.mem_range.1 hk) (Hall.out k (List.mem_range.1 hk))]
        exact Nat.le_refl _))
      clear hrow hd Hrow
      go_wp2_with fail
      refine (Hcs.out).mono ?_
      rintro e w6 ⟨q, rfl, hdq, hb6⟩
      have Hdq := Lib.hid (hdq.mono (D := w.heap.size) (E := w6.heap.size) hs (Nat.le_refl _))
      have Hb6 := Lib.hid (Hb.out.trans (hb6.mono hs))
      clear hb6 hdq
      go_wp2_with fail
      go_returns
      exact ⟨⟨_, rfl, Hdq.out⟩, Hb6.out⟩
end Go.Proofs.YtlmiebeffdcfhaaGreat
namespace Go.Proofs.YtlmiebeffdcfhaaGreat
open Go.RowKit
theorem col_id1 : ∀ k : Fin 2, col (idM 1) k.val = basisL 1 ((k.val : Nat) : Int) := by decide +kernel
theorem col_id2 : ∀ k : Fin 4, col (idM 2) k.val = basisL 2 ((k.val : Nat) : Int) := by decide +kernel
theorem col_id3 : ∀ k : Fin 8, col (idM 3) k.val = basisL 3 ((k.val : Nat) : Int) := by decide +kernel
theorem col_id4 : ∀ k : Fin 16, col (idM 4) k.val = basisL 4 ((k.val : Nat) : Int) := by decide +kernel
theorem col_id {n : Int} (h : 1 ≤ n ∧ n ≤ 4) {k : Nat} (hk : k < 2 ^ n.toNat) : col (idM n) k = basisL n (k : Int) := by
  rcases (show n = 1 ∨ n = 2 ∨ n = 3 ∨ n = 4 by omega) with rfl | rfl | rfl | rfl
  · exact col_id1 ⟨k, hk⟩
  · exact col_id2 ⟨k, hk⟩
  · exact col_id3 ⟨k, hk⟩
  · exact col_id4 ⟨k, hk⟩
theorem ag_basisB {g : Gt} {n : Int} (hg : gtB g n = true) {k : Nat} (hk : k < 2 ^ n.toNat) : agB g (basisL n (k : Int)) = true := by
  have h := gmL_rows hg (agV g (basisL n (k : Int))) (List.mem_map.2 ⟨k, List.mem_range.2 hk, rfl⟩)
  unfold agB
  unfold agV at h
  cases ho : agO g (basisL n (k : Int)) with
  | some o => rfl
  | none =>
    rw [ho] at h
    have : 0 < 2 ^ n.toNat := Nat.two_pow_pos _
    simp at h
    omega
theorem idM_rows {n : Int} (h : 1 ≤ n ∧ n ≤ 4) : ∀ r ∈ idM n, (idM n).length ≤ r.length := by
  rcases (show n = 1 ∨ n = 2 ∨ n = 3 ∨ n = 4 by omega) with rfl | rfl | rfl | rfl <;> decide +kernel
theorem basis_ok (n : Int) (h : 1 ≤ n ∧ n ≤ 4) : ∀ k : Nat, k < 2 ^ n.toNat → (∀ x ∈ basisL n (k : Int), x.ok) ∧ (basisL n (k : Int)).length ≤ 16 := by
  have h1 : ∀ k : Fin 2, (∀ x ∈ basisL 1 ((k.val : Nat) : Int), x.ok) ∧ (basisL 1 ((k.val : Nat) : Int)).length ≤ 16 := by decide +kernel
  have h2 : ∀ k : Fin 4, (∀ x ∈ basisL 2 ((k.val : Nat) : Int), x.ok) ∧ (basisL 2 ((k.val : Nat) : Int)).length ≤ 16 := by decide +kernel
  have h3 : ∀ k : Fin 8, (∀ x ∈ basisL 3 ((k.val : Nat) : Int), x.ok) ∧ (basisL 3 ((k.val : Nat) : Int)).length ≤ 16 := by decide +kernel
  have h4 : ∀ k : Fin 16, (∀ x ∈ basisL 4 ((k.val : Nat) : Int), x.ok) ∧ (basisL 4 ((k.val : Nat) : Int)).length ≤ 16 := by decide +kernel
  intro k hk
  rcases (show n = 1 ∨ n = 2 ∨ n = 3 ∨ n = 4 by omega) with rfl | rfl | rfl | rfl
  · exact h1 ⟨k, hk⟩
  · exact h2 ⟨k, hk⟩
  · exact h3 ⟨k, hk⟩
  · exact h4 ⟨k, hk⟩
theorem basisStK (n : Int) (h : 1 ≤ n ∧ n ≤ 4) : ∀ k : Nat, k < 2 ^ n.toNat → stB (basisL n (k : Int)) = true := by
  have h1 : ∀ k : Fin 2, stB (basisL 1 ((k.val : Nat) : Int)) = true := by decide +kernel
  have h2 : ∀ k : Fin 4, stB (basisL 2 ((k.val : Nat) : Int)) = true := by decide +kernel
  have h3 : ∀ k : Fin 8, stB (basisL 3 ((k.val : Nat) : Int)) = true := by decide +kernel
  have h4 : ∀ k : Fin 16, stB (basisL 4 ((k.val : Nat) : Int)) = true := by decide +kernel
  intro k hk
  rcases (show n = 1 ∨ n = 2 ∨ n = 3 ∨ n = 4 by omega) with rfl | rfl | rfl | rfl
  · exact h1 ⟨k, hk⟩
  · exact h2 ⟨k, hk⟩
  · exact h3 ⟨k, hk⟩
  · exact h4 ⟨k, hk⟩
/-- One gate: its matrix is the matrix of the list that holds it alone. -/
theorem ags_one {g : Gt} {l : List Dw} (hs : stB l = true) (hb : agB g l = true) : agsB [g] l = true ∧ agsV [g] l = agV g l := by
  have h : agsO [g] l = some (agV g l) := by
    unfold agsO
    rw [hs, if_pos rfl, agsF, if_pos hb, agsF]
  exact ⟨by unfold agsB; rw [h]; rfl, by unfold agsV; rw [h]; rfl⟩
theorem cir_one {g : Gt} {m : Nat} (hg : gtB g (m : Int) = true) : cirB [g] m = true ∧ cirM [g] m = gmM g (m : Int) := by
  have hn := (gtB_parts hg).1
  have hone : ∀ k : Nat, k < 2 ^ m → agsB [g] (basisL (m : Int) (k : Int)) = true ∧ agsV [g] (basisL (m : Int) (k : Int)) = agV g (basisL (m : Int) (k : Int)) := fun k hk =>
    ags_one (basisStK (m : Int) hn k (by rw [Int.toNat_natCast]; exact hk)) (ag_basisB hg (by rw [Int.toNat_natCast]; exact hk))
  have hB : cirB [g] m = true := by
    unfold cirB
    rw [List.all_eq_true]
    exact fun k hk => (hone k (List.mem_range.1 hk)).1
  refine ⟨hB, ?_⟩
  unfold cirM gmM
  rw [hB, if_pos rfl, if_pos hg]
  congr 1
  unfold cirC gmL
  rw [Int.toNat_natCast]
  exact List.map_congr_left fun k hk => (hone k (List.mem_range.1 hk)).2
attribute [local irreducible] World.cell?
set_option maxRecDepth 100000 in
set_option maxHeartbeats 1600000 in
theorem imatL1 (D C b : Nat) (vg c : Value) (L : List Gt) (l : List Dw) (w : World) (hx : w.heap[b]? = some (.cells #[vg] 28 (0, 0))) (hg : gtE.Sl w C vg L) (hc : DSl w D c l) (he : Eb l) (hm : l.length ≤ 1048576) (hn : L.length ≤ 1048576) :
    Calls Tryz.prog 80 #[c, .pointer (some ⟨b, 0, none⟩)] w fun e w' => (∃ r, e = .returned (.tuple #[r, .bool (agsB L l)]) ∧ DSl w' w.heap.size r (agsV L l)) ∧ Below w.heap.size w w' := by
  have H := Lib.hid (iapGs D C vg c L l w hg hc he hm hn)
  have c0 := cell_at hx 0 _ rfl
  have hgl := lt_of_block hx
  clear hx he hm hn
  generalize agsV L l = SL at *
  generalize agsB L l = SB at *
  obtain ⟨a', cap', rfl, -, -⟩ := hc
  obtain ⟨a2, cap2, rfl, -, -⟩ := hg
  go_enter Tryz.func80, Tryz.ntmps80
  go_wp2_with fail
  refine (H.out).mono ?_
  rintro e w1 ⟨⟨q, rfl, hd⟩, hb1⟩
  have Hd := Lib.hid hd
  have Hb1 := Lib.hid hb1
  clear hd hb1
  go_wp2_with fail
  go_returns
  exact ⟨⟨_, rfl, Hd.out⟩, Hb1.out⟩
set_option maxRecDepth 100000 in
set_option maxHeartbeats 3200000 in
theorem imatL (C : Nat) (vg : Value) (L : List Gt) (m : Nat) (w : World) (hg : gtE.Sl w C vg L) (h1 : 1 ≤ m) (h4 : m ≤ 4) (hL : L.length ≤ 1048576) : Calls Tryz.prog 44 #[vg, .int .i64 (m : Int)] w fun e w' => (∃ r, e = .returned (.tuple #[r, .bool (cirB L m)]) ∧ DSM w' w.heap.size w'.heap.size r (cirM L m)) ∧ Below w.heap.size w w' := by
  have hn : 1 ≤ (m : Int) ∧ (m : Int) ≤ 4 := by omega
  have HX := Lib.hid (heap_alloc_new w (.cells #[vg] 28))
  have Hb0 := Lib.hid (show Below w.heap.size w (w.alloc (.cells #[vg] 28)) by go_grown)
  have Hg := Lib.hid (hg.below Hb0.out)
  have c0 := cell_at HX.out 0 _ rfl
  have H2 := Lib.hid (fun W => iident (m : Int) W (by omega) (by omega))
  have hl : (idM (m : Int)).length = 2 ^ m := by rw [idM_len hn, Int.toNat_natCast]
  have eF : ∀ args w, (callFunc 80 args).run Tryz.prog w = .ok (.enter 80 args) w := Tryz.call80
  have h16 : (idM (m : Int)).length ≤ 16 := (idM_amps (m : Int)).1
  have H3 := Lib.hid (fun R S u W (h : DSM W R S u (idM (m : Int))) (hx : W.heap[w.heap.size]? = some (.cells #[vg] 28 (0, 0))) (hg : gtE.Sl W C vg L) =>
    imapC 80 #[.pointer (some ⟨w.heap.size, 0, none⟩)] eF R S u (idM (m : Int)) (fun k => agsB L (basisL (m : Int) (k : Int))) (fun k => agsV L (basisL (m : Int) (k : Int))) W h (idM_rows hn) (by omega)
      (fun k hk ht => by rw [hl] at hk ⊢; rw [agsV_len ht, basis_len h1 h4 hk])
      (fun k hk D c W' hW hc => by
        rw [hl] at hk
        rw [col_id hn (by rw [Int.toNat_natCast]; exact hk)] at hc
        have hk' : k < 2 ^ (m : Int).toNat := by rw [Int.toNat_natCast]; exact hk
        exact imatL1 D C w.heap.size vg c L (basisL (m : Int) (k : Int)) W' ((hW.block _ (lt_of_block hx)).trans hx) (hg.below hW) hc (fun x hx => ok_eb ((basis_ok (m : Int) hn k hk').1 x hx)) (by have := (basis_ok (m : Int) hn k hk').2; omega) hL))
  have hM : (if (List.range (idM (m : Int)).length).all (fun k => agsB L (basisL (m : Int) (k : Int))) = true then colsM (mapX (idM (m : Int)).length fun k => agsV L (basisL (m : Int) (k : Int))) else []) = cirM L m := by
    rw [hl]; rfl
  have hB : ((List.range (idM (m : Int)).length).all (fun k => agsB L (basisL (m : Int) (k : Int)))) = cirB L m := by
    rw [hl]; rfl
  rw [hM, hB] at H3
  clear hM hB hl h16 hn
  generalize cirM L m = SL at *
  generalize cirB L m = SB at *
  obtain ⟨a2, cap2, rfl, -, -⟩ := hg
  go_enter Tryz.func44, Tryz.ntmps44
  go_wp2_with fail
  refine (H2.out _).mono ?_
  rintro e w2 ⟨u, rfl, hd2, hb2⟩
  have H4 := Lib.hid (H3.out _ _ _ _ hd2 (below_blk hb2 (lt_of_block HX.out) HX.out) (Hg.out.below hb2))
  have Hb2 := Lib.hid (below_nx Hb0.out hb2)
  have hs2 := Hb2.out.size
  clear hb2 hd2 H3
  go_wp2_with fail
  refine (H4.out).mono ?_
  rintro e w3 ⟨⟨q, rfl, hd⟩, hb3⟩
  have Hd := Lib.hid (hd.mono (D := w.heap.size) (E := w3.heap.size) hs2 (Nat.le_refl _))
  have Hb3 := Lib.hid (below_nx Hb2.out hb3)
  clear hd hb3 H4
  go_wp2_with fail
  go_returns
  exact ⟨⟨_, rfl, Hd.out⟩, Hb3.out⟩
end Go.Proofs.YtlmiebeffdcfhaaGreat
namespace Go.Proofs.YtlmiebeffdcfhaaGreat
theorem ciB_ofC {n : Int} {L : List Gt} (h1 : ∀ g ∈ L, gtB g n = true) (h2 : 1 ≤ n ∧ n ≤ 4) (h3 : L.length ≤ 60) : ciB n L = true := by
  unfold ciB
  simp only [Bool.and_eq_true, decide_eq_true_eq, List.all_eq_true]
  exact ⟨h1, h2, h3⟩
/-- What the law asks of a gate that may be controlled. -/
theorem law_ct {q : Int} {g : Gt} (h : ctCan q g) : gtB g 4 = true ∧ ccB 4 (ctL q g) = true ∧ ctMB q (gmM g 4) = true ∧ ccM 4 (ctL q g) = ctM q (gmM g 4) := by
  obtain ⟨hg, hq, hn, hk⟩ := id h
  obtain ⟨hv, h2, -⟩ := ct_valid hg hq hn hk
  have hcB := cir_found (L := ctL q g) (n := 4) (by decide) (by decide) hv (by omega)
  obtain ⟨hgB, hgM⟩ := cir_one (g := g) (m := 4) hg
  have hM : ctMB q (cirM [g] 4) = true := ct_mb hq (fun x hx => by rw [List.mem_singleton] at hx; subst hx; exact h) hgB
  have hci : ciB 4 (ctL q g) = true := ciB_ofC hv (by decide) (by have := ctL_len q g; omega)
  have e := ct_cir hg hq hn hk hcB hgB
  have hgM' : cirM [g] 4 = gmM g 4 := hgM
  rw [hgM'] at e hM
  refine ⟨hg, ?_, hM, ?_⟩
  · unfold ccB
    rw [hci, show (4 : Int).toNat = 4 from rfl, hcB]
    rfl
  · unfold ccM ctM
    rw [hci, hM, show (4 : Int).toNat = 4 from rfl]
    exact e
theorem hs_ctLL {q : Int} : ∀ {L : List Gt}, (∀ g ∈ L, ctCan q g) → hs (ctLL q L) ≤ 2 * L.length
  | [], _ => Nat.zero_le _
  | g :: L, h => by
    obtain ⟨hg, hq, hn, hk⟩ := h g List.mem_cons_self
    have h1 := (ct_valid hg hq hn hk).2.1
    have h2 := hs_ctLL (q := q) (L := L) fun x hx => h x (List.mem_cons_of_mem _ hx)
    rw [show ctLL q (g :: L) = ctL q g ++ ctLL q L from rfl, hs_appL, List.length_cons]
    omega
/-- What the law asks of a list of gates that may be controlled. -/
theorem law_ctA {q : Int} {L : List Gt} (h : ctBs q L = true) (hq : 0 ≤ q ∧ q < 4) (hl : L.length ≤ 3) : ccB 4 L = true ∧ ccB 4 (ctLL q L) = true ∧ ctMB q (ccM 4 L) = true ∧ ccM 4 (ctLL q L) = ctM q (ccM 4 L) := by
  have hc := ctBs_iff.1 h
  obtain ⟨hv, hv1⟩ := ct_valids hc
  have h7 := ctLL_len q L
  have hcB := cir_found (L := ctLL q L) (n := 4) (by decide) (by decide) hv (by have := hs_ctLL hc; omega)
  have hgB := cir_found (L := L) (n := 4) (by decide) (by decide) hv1 (by have := hs_le L; omega)
  have hci : ciB 4 (ctLL q L) = true := ciB_ofC hv (by decide) (by omega)
  have hcg : ciB 4 L = true := ciB_ofC hv1 (by decide) (by omega)
  have hM : ctMB q (cirM L 4) = true := ct_mb hq hc hgB
  have e := ct_all hc hcB hgB
  have e1 : ccM 4 L = cirM L 4 := by unfold ccM; rw [hcg]; rfl
  rw [e1]
  refine ⟨?_, ?_, hM, ?_⟩
  · unfold ccB
    rw [hcg, show (4 : Int).toNat = 4 from rfl, hgB]
    rfl
  · unfold ccB
    rw [hci, show (4 : Int).toNat = 4 from rfl, hcB]
    rfl
  · unfold ccM ctM
    rw [hci, hM, show (4 : Int).toNat = 4 from rfl]
    exact e
end Go.Proofs.YtlmiebeffdcfhaaGreat
namespace Go.Proofs.YtlmiebeffdcfhaaGreat
open Go.RowKit
attribute [local irreducible] World.cell?
set_option maxRecDepth 100000 in
set_option maxHeartbeats 3200000 in
theorem icirc (B : Nat) (n : Int) (v : Value) (l : List Gt) (w : World) (hv : gtE.Sl w B v l) (hm : l.length ≤ 1048576) (n0 : -9223372036854775808 ≤ n) (n1 : n ≤ 9223372036854775807) :
    Calls Tryz.prog 13 #[.agg #[.int .i64 n, v]] w fun e w' => (∃ r, e = .returned (.tuple #[r, .bool (ccB n l)]) ∧ DSM w' w.heap.size w'.heap.size r (ccM n l)) ∧ Below w.heap.size w w' := by
  have HX := Lib.hid (heap_alloc_new w (.cells #[.int .i64 n, v] 38))
  have Hb0 := Lib.hid (show Below w.heap.size w (w.alloc (.cells #[.int .i64 n, v] 38)) by go_grown)
  have Hv := Lib.hid (hv.below Hb0.out)
  obtain ⟨c0, c1⟩ := blk_cells2 HX.out
  have hCl := lt_of_block HX.out
  have H1 := Lib.hid (fun W (h : gtE.Sl W B v l) => ivalidC B n v l W h hm n0 n1)
  obtain ⟨pa, ca, hpa, -, -⟩ := id hv
  clear hv
  cases hc : ciB n l with
  | false =>
    rw [hc] at H1
    rw [show ccB n l = false by unfold ccB; rw [hc]; rfl, show ccM n l = [] by unfold ccM; rw [hc]; rfl]
    clear hc
    subst hpa
    go_enter Tryz.func13, Tryz.ntmps13
    go_wp2_with fail
    refine (H1.out _ Hv.out).mono ?_
    rintro e w1 ⟨rfl, hb1⟩
    have Hb1 := Lib.hid (below_nx Hb0.out hb1)
    clear hb1 c0 c1 hCl
    go_wp2_with fail
    go_returns
    exact ⟨⟨_, rfl, DSM.nil⟩, by have := Hb1.out; go_grown⟩
  | true =>
    rw [hc] at H1
    have hn : 1 ≤ n ∧ n ≤ 4 := by
      have h := hc
      unfold ciB at h
      rw [Bool.and_eq_true, Bool.and_eq_true] at h
      exact of_decide_eq_true h.2.1
    obtain ⟨m, rfl⟩ : ∃ m : Nat, n = (m : Int) := ⟨n.toNat, by omega⟩
    have H2 := Lib.hid (fun W (h : gtE.Sl W B v l) => imatL B v l m W h (by omega) (by omega) hm)
    rw [show ccB (m : Int) l = cirB l m by unfold ccB; rw [hc, Int.toNat_natCast]; rfl, show ccM (m : Int) l = cirM l m by unfold ccM; rw [hc, Int.toNat_natCast]; rfl]
    generalize cirM l m = SL at *
    generalize cirB l m = SB at *
    clear hc hn
    subst hpa
    go_enter Tryz.func13, Tryz.ntmps13
    go_wp2_with fail
    refine (H1.out _ Hv.out).mono ?_
    rintro e w1 ⟨rfl, hb1⟩
    have HX1 := Lib.hid (below_blk hb1 (lt_of_block HX.out) HX.out)
    have Hv1 := Lib.hid (Hv.out.below hb1)
    have Hb1 := Lib.hid (below_nx Hb0.out hb1)
    clear hb1 c0 c1 hCl
    obtain ⟨c0, c1⟩ := blk_cells2 HX1.out
    have hCl := lt_of_block HX1.out
    go_wp2_with fail
    refine (H2.out _ Hv1.out).mono ?_
    rintro e w3 ⟨⟨q, rfl, hd⟩, hb3⟩
    have Hd := Lib.hid (hd.mono (D := w.heap.size) (E := w3.heap.size) Hb1.out.size (Nat.le_refl _))
    have Hb3 := Lib.hid (below_nx Hb1.out hb3)
    clear hd hb3 c0 c1 hCl
    go_wp2_with fail
    go_returns
    exact ⟨⟨_, rfl, Hd.out⟩, Hb3.out⟩
end Go.Proofs.YtlmiebeffdcfhaaGreat
namespace Go.Proofs.YtlmiebeffdcfhaaGreat
open Go.RowKit
/-- A circuit's box. -/
def CB (w : World) (b : Nat) (n : Int) (v : Value) (w' : World) : Prop := w'.cell? ⟨b, 0, none⟩ = some (.int .i64 n) ∧ w'.cell? ⟨b, 1, none⟩ = some v ∧ b < w'.heap.size ∧ Below w.heap.size w w'
theorem CB.drew {w w1 : World} {b : Nat} {n : Int} {v : Value} (h : CB w b n v w1) : CB w b n v w1.drew := let ⟨a0, a1, z, l⟩ := h; ⟨a0, a1, z, l.drew⟩
theorem CB.below {w w1 w2 : World} {b : Nat} {n : Int} {v : Value} (h : CB w b n v w1) (hb : Below w1.heap.size w1 w2) : CB w b n v w2 :=
  let ⟨a0, a1, z, l⟩ := h
  ⟨cell_below a0 hb z, cell_below a1 hb z, Nat.lt_of_lt_of_le z hb.size, below_up l hb l.size⟩
theorem cell_set {w : World} {b o g p : Nat} {u v : Value} (h : w.cell? ⟨b, o, none⟩ = some v) (hn : b ≠ g) : (w.setCell ⟨g, p, none⟩ u).cell? ⟨b, o, none⟩ = some v :=
  (World.cell?_of_block (w := w) (a := ⟨b, o, none⟩) (Below.heap_setCell w ⟨g, p, none⟩ u b (by show b ≠ g; exact hn))).trans h
theorem CB.set {w w1 : World} {b g p : Nat} {n : Int} {v u : Value} (h : CB w b n v w1) (hn : b ≠ g) (hg : w.heap.size ≤ g) : CB w b n v (w1.setCell ⟨g, p, none⟩ u) :=
  let ⟨a0, a1, z, l⟩ := h
  ⟨cell_set a0 hn, cell_set a1 hn, by simpa [World.setCell] using z, l.setCell (p := ⟨g, p, none⟩) hg u⟩
/-- Two circuits' boxes. -/
def CB2 (w : World) (a b : Nat) (n m : Int) (v u : Value) (w' : World) : Prop := w'.cell? ⟨a, 0, none⟩ = some (.int .i64 n) ∧ w'.cell? ⟨a, 1, none⟩ = some v ∧ w'.cell? ⟨b, 0, none⟩ = some (.int .i64 m) ∧ w'.cell? ⟨b, 1, none⟩ = some u ∧ a < w'.heap.size ∧ b < w'.heap.size ∧ Below w.heap.size w w'
theorem CB2.drew {w w1 : World} {a b : Nat} {n m : Int} {v u : Value} (h : CB2 w a b n m v u w1) : CB2 w a b n m v u w1.drew := let ⟨a0, a1, b0, b1, z, z', l⟩ := h; ⟨a0, a1, b0, b1, z, z', l.drew⟩
theorem CB2.below {w w1 w2 : World} {a b : Nat} {n m : Int} {v u : Value} (h : CB2 w a b n m v u w1) (hb : Below w1.heap.size w1 w2) : CB2 w a b n m v u w2 :=
  let ⟨a0, a1, b0, b1, z, z', l⟩ := h
  ⟨cell_below a0 hb z, cell_below a1 hb z, cell_below b0 hb z', cell_below b1 hb z', Nat.lt_of_lt_of_le z hb.size, Nat.lt_of_lt_of_le z' hb.size, below_up l hb l.size⟩
attribute [local irreducible] World.cell?
end Go.Proofs.YtlmiebeffdcfhaaGreat
namespace Go.Proofs.YtlmiebeffdcfhaaGreat
open Go.RowKit
attribute [local irreducible] World.cell?
end Go.Proofs.YtlmiebeffdcfhaaGreat
namespace Go.Proofs.YtlmiebeffdcfhaaGreat
open Go.RowKit
attribute [local irreducible] World.cell?
set_option maxRecDepth 100000 in
set_option maxHeartbeats 1600000 in
theorem lsame (B C : Nat) (v u : Value) (l : List Gt) (w : World) (hv : gtE.Sl w B v l) (hu : gtE.Sl w C u l) (hm : l.length ≤ 16777216) :
    Calls Tryz.prog 10 #[v, u] w fun e w' => e = .returned (.bool true) ∧ Below w.heap.size w w' := by
  obtain ⟨a, cap, rfl, hcap, hr⟩ := hv
  obtain ⟨a', cap', rfl, hcap', hr'⟩ := hu
  have Hr := Lib.hid hr
  have Hr' := Lib.hid hr'
  clear hr hr'
  have hd2 : ((l.length : Int) != l.length) = false := by simp
  go_enter Tryz.func10, Tryz.ntmps10
  go_wp2_with fail
  go_loopg [5] l.length (fun n i wr => ∃ j : Nat, n = l.length - j ∧ j ≤ l.length ∧ i = .int .i64 j ∧ Hid (Below w.heap.size w wr))
  case atStart => exact ⟨0, rfl, Nat.zero_le _, rfl, Below.refl _ _⟩
  case round =>
    obtain ⟨j, rfl, hj, rfl, Hb⟩ := hrel
    by_cases hlt : j < l.length
    · obtain ⟨g, rfl, _, hrow⟩ := Hr.out (by omega)
      obtain ⟨g', rfl, _, hrow'⟩ := Hr'.out (by omega)
      obtain ⟨x, hx⟩ : ∃ x, l[j]? = some x := ⟨l[j], List.getElem?_eq_getElem hlt⟩
      have r1 := hrow.below Hb.out hrow.lt
      have r2 := hrow'.below Hb.out hrow'.lt
      obtain ⟨c0, c1, c2, c3⟩ := GRow.cells r1 hx
      obtain ⟨d0, d1, d2, d3⟩ := GRow.cells r2 hx
      have hgl := r1.lt
      have hgl' := r2.lt
      have hjI : (0 : Int) ≤ (j : Int) := by omega
      have hjL : (j : Int) < (l.length : Int) := by omega
      clear r1 r2 hrow hrow' hx
      go_upto_region 6 with fail
      go_quiet (fail)
      go_wp2_with fail
      go_roundg (l.length - (j + 1))
      case measure => omega
      case rel => exact ⟨j + 1, rfl, by omega, by go_num, Lib.hid (below_dn Hb.out _)⟩
    · obtain rfl : j = l.length := by omega
      go_wp2_with fail
      go_ret
      exact ⟨rfl, Hb.out⟩
end Go.Proofs.YtlmiebeffdcfhaaGreat
