/- BaseB08: several of our texts in one: MtC MtW. -/
import Derived.Test.YtmpafidkpangeaaGreatBaseB14
import Derived.Test.YtmpafidkpangeaaGreatBaseB06
namespace Go.Proofs.YtmpafidkpangeaaGreat
open Go.RowKit
theorem col_step {M : List (List Dw)} {j k : Nat} {r : List Dw} {x : Dw} (hr : M[j]? = some r) (hx : r[k]? = some x) : flat ((col M k).take j) ++ fl x = flat ((col M k).take (j + 1)) := by
  have e : (col M k)[j]? = some x := by
    rw [col, List.getElem?_map, hr]
    simp [List.getD, hx]
  rw [List.take_add_one, e, flat_app]
  simp [flat]
attribute [local irreducible] World.cell?
set_option maxRecDepth 100000 in
set_option maxHeartbeats 1600000 in
theorem scolumn (B C : Nat) (v : Value) (M : List (List Dw)) (k : Nat) (w : World) (hv : DSM w B C v M) (hk : ∀ r ∈ M, k < r.length) (hn : M.length ≤ 1048576) (hk2 : k ≤ 1048576) :
    Calls Tryz.prog 82 #[v, .int .i64 k] w fun e w' => ∃ u, e = .returned u ∧ DSl w' w.heap.size u (col M k) ∧ Below w.heap.size w w' := by
  obtain ⟨i0, hi, hz0, hz1, hz2⟩ := info_parts infoDw
  obtain ⟨a, cap, rfl, hcap, hr⟩ := hv
  have Hr := Lib.hid hr
  clear hr
  have Hk := Lib.hid hk
  clear hk
  go_enter Tryz.func82, Tryz.ntmps82
  go_wp2_with fail
  go_loopg [5, 6] M.length (fun n out i wr => ∃ j : Nat, n = M.length - j ∧ j ≤ M.length ∧ i = .int .i64 j ∧ Hid (wr.ownsRow w.heap.size 84 5 out j (flat ((col M k).take j))) ∧ Hid (Below w.heap.size w wr))
  case atStart => exact ⟨0, rfl, Nat.zero_le _, rfl, own_new rfl, (Below.refl _ _).alloc (Nat.le_refl _) _⟩
  case round =>
    obtain ⟨j, rfl, hj, rfl, Hown, Hb⟩ := hrel
    by_cases hlt : j < M.length
    · obtain ⟨g, rfl, _, _, hrow⟩ := Hr.out (by omega)
      obtain ⟨r, hr⟩ : ∃ r, M[j]? = some r := ⟨M[j], List.getElem?_eq_getElem hlt⟩
      have hkr := Hk.out r (List.mem_of_getElem? hr)
      obtain ⟨x, hx⟩ : ∃ x, r[k]? = some x := ⟨r[k], List.getElem?_eq_getElem hkr⟩
      have r1 := hrow.block (Hb.out.block _ hrow.lt) fun k _ _ hk => Hb.out.block k hk
      obtain ⟨p, pc, c0, hd1⟩ := r1.cell hr
      obtain ⟨p', pc', he, hpc, hd2⟩ := hd1
      obtain ⟨g2, hp, _, _, hrow2⟩ := hd2 (by omega)
      injection he with he1 he2 he3
      subst he1 he3 hp
      obtain ⟨d0, d1, d2, d3, d4⟩ := hrow2.cells hx
      have Hstep := Lib.hid (col_step hr hx)
      have hgl := r1.lt
      have hgl2 := hrow2.lt
      have hs := Hb.out.size
      clear hd2 r1 hrow hrow2 hr hx he2
      go_wp2_with (first
        | (at_builtin; refine wpList_append_own _ rfl _ _ 36 rfl w.heap.size 84 i0 (.agg #[.int .i64 0, .int .i64 0, .int .i64 0, .int .i64 0, .int .i64 0]) 5 40 Tryz.underlying36 hi hz0 hz1 hz2 rfl (by decide) _ _ _ rfl (Hown.out.alloc _) ⟨wr.heap.size, 0, none⟩ 1 1 (fl x) rfl rfl (fl_new _ _ _) (fl_plain _) ?d3 ?d4 ?d5 ?_))
      case d3 => unfold maxLen; omega
      case d4 => omega
      case d5 => first | omega | (simp; omega) | (simp; omega)
      intro v' w4 hown' hgrow _
      have HB4 := Lib.hid ((Hb.out.alloc hs (.cells #[.int .i64 x.n.a, .int .i64 x.n.b, .int .i64 x.n.c, .int .i64 x.n.d, .int .i64 x.e] 84)).grown hgrow (by simp; omega) (fun q hq => by have := Hown.out.lt q hq; omega))
      rw [Hstep.out] at hown'
      have Hown4 := Lib.hid hown'
      clear hown' hgrow
      go_wp2_with fail
      go_roundg (M.length - (j + 1))
      case measure => omega
      case rel => exact ⟨j + 1, rfl, by omega, by go_num, Hown4.out, HB4⟩
    · obtain rfl : j = M.length := by omega
      have hown := Hown.out
      rw [show M.length = (col M k).length from (col_len M k).symm, List.take_length] at hown
      have Hd := Lib.hid (DSl.of_own hown)
      clear hown
      go_wp2_with fail
      go_ret
      exact ⟨_, rfl, Hd.out, Hb.out⟩
theorem colsM_at {L : List (List Dw)} {j : Nat} (hj : j < L.length) : (colsM L).take (j + 1) = (colsM L).take j ++ [col L j] := by
  rw [List.take_add_one, colsM, List.getElem?_map, List.getElem?_range hj]
  rfl
set_option maxRecDepth 100000 in
set_option maxHeartbeats 1600000 in
theorem scolumns (B C : Nat) (v : Value) (L : List (List Dw)) (w : World) (hv : DSM w B C v L) (hk : ∀ r ∈ L, L.length ≤ r.length) (hn : L.length ≤ 1048576) :
    Calls Tryz.prog 80 #[v] w fun e w' => ∃ u, e = .returned u ∧ DSM w' w.heap.size w'.heap.size u (colsM L) ∧ Below w.heap.size w w' := by
  obtain ⟨i0, hi, hz0, hz1, hz2⟩ := info_parts infoDs
  have Hv := Lib.hid hv
  have Hk := Lib.hid hk
  clear hk
  have Hc := Lib.hid (fun (j : Nat) (hj : j < L.length) W (h : DSM W B C v L) => scolumn B C v L j W h (fun r hr => Nat.lt_of_lt_of_le hj (Hk.out r hr)) hn (by omega))
  obtain ⟨a, cap, rfl, hcap, -⟩ := hv
  clear Hk
  go_enter Tryz.func80, Tryz.ntmps80
  go_wp2_with fail
  go_loopg [3, 4] L.length (fun n out i wr => ∃ (j : Nat) (vs : List Value), n = L.length - j ∧ j ≤ L.length ∧ i = .int .i64 j ∧ Hid (wr.ownsRow w.heap.size 36 1 out j vs) ∧ Hid (RwS wr w.heap.size wr.heap.size vs ((colsM L).take j)) ∧ Hid (Below w.heap.size w wr))
  case atStart => exact ⟨0, [], rfl, Nat.zero_le _, rfl, ownM_new rfl, RwS.nil, (Below.refl _ _).alloc (Nat.le_refl _) _⟩
  case round =>
    obtain ⟨j, vs, rfl, hj, rfl, Hown, Hrows, Hb⟩ := hrel
    by_cases hlt : j < L.length
    · have Hv1 := Lib.hid (Hv.out.block fun k _ _ hk => Hb.out.block k hk)
      have Hc1 := Lib.hid (Hc.out j hlt wr Hv1.out)
      clear Hv1
      have hs := Hb.out.size
      go_wp2_with fail
      refine (Hc1.out).mono ?_
      rintro e w2 ⟨u, rfl, hd, hb2⟩
      have Hown2 := Lib.hid (row_below Hown.out hb2)
      have Hrows2 := Lib.hid (Hrows.out.snoc hd.upto hs hb2.size fun k _ _ hk => hb2.block k hk)
      have Hb2 := Lib.hid (Hb.out.trans (hb2.mono hs))
      have hs2 := Hb2.out.size
      obtain ⟨p, pc, rfl, -, -⟩ := hd
      clear hb2 Hown Hrows Hb Hc1
      go_wp2_with (first
        | (at_builtin; refine wpList_append_own _ rfl _ _ 28 rfl w.heap.size 36 i0 (.slice none 0 0) 1 24 Tryz.underlying28 hi hz0 hz1 hz2 rfl (by decide) _ _ _ rfl (Hown2.out.alloc _) ⟨w2.heap.size, 0, none⟩ 1 1 [.slice p (col L j).length pc] rfl rfl (slice_new _ _ _) (by intro u hu; simp at hu; subst hu; rfl) ?d3 ?d4 ?d5 ?_))
      case d3 => unfold maxLen; omega
      case d4 => omega
      case d5 => first | omega | (simp; omega)
      intro v' w4 hown' hgrow _
      have HB4 := Lib.hid ((Hb2.out.alloc hs2 (.cells #[.slice p (col L j).length pc] 36)).grown hgrow (by simp; omega) (fun q hq => by have := Hown2.out.lt q hq; omega))
      have Hrows4 := Lib.hid (((Hrows2.out.block fun k _ _ hk => Below.heap_alloc _ _ _ hk).grown (Hown2.out.alloc _) hgrow).upto)
      have Hown4 := Lib.hid hown'
      clear hown' hgrow
      go_wp2_with fail
      go_roundg (L.length - (j + 1))
      case measure => omega
      case rel => exact ⟨j + 1, _, rfl, by omega, by go_num, Hown4.out, by rw [colsM_at hlt]; exact Hrows4, HB4⟩
    · obtain rfl : j = L.length := by omega
      have hown := Hown.out
      have hrows := Hrows.out
      rw [show L.length = (colsM L).length from (colsM_len L).symm] at hown hrows
      rw [List.take_length] at hrows
      have Hd := Lib.hid (DSM.of_own hown hrows (Nat.le_refl _))
      clear hown hrows
      go_wp2_with fail
      go_ret
      exact ⟨_, rfl, Hd.out, Hb.out⟩
end Go.Proofs.YtmpafidkpangeaaGreat
namespace Go.Proofs.YtmpafidkpangeaaGreat
open Go.RowKit
theorem mrow_step {s : Dw} {l : List (Dw × Dw)} {j : Nat} {p : Dw × Dw} (hp : l[j]? = some p) :
    mrow s (l.drop j) = if p.1 = .zero ∨ p.2 = .zero then mrow s (l.drop (j + 1)) else if dMulB p.1 p.2 && dAddB s (dMulV p.1 p.2) then mrow (dAddV s (dMulV p.1 p.2)) (l.drop (j + 1)) else none := by
  have hj : j < l.length := by
    rcases Nat.lt_or_ge j l.length with h | h
    · exact h
    · rw [List.getElem?_eq_none h] at hp; cases hp
  have e : l.drop j = p :: l.drop (j + 1) := by
    rw [List.getElem?_eq_getElem hj] at hp
    injection hp with hp
    rw [← hp]
    exact (List.getElem_cons_drop ..).symm
  rw [e, mrow]
attribute [local irreducible] World.cell?
set_option maxRecDepth 100000 in
set_option maxHeartbeats 3200000 in
theorem srow (B C : Nat) (v u : Value) (a b : List Dw) (w : World) (hv : DSl w B v a) (hu : DSl w C u b) (hl : a.length = b.length) (hlen : b.length ≤ 1048576) :
    Calls Tryz.prog 145 #[v, u] w fun e w' => e = .returned (.tuple #[(.agg #[.int .i64 (rowV a b).n.a, .int .i64 (rowV a b).n.b, .int .i64 (rowV a b).n.c, .int .i64 (rowV a b).n.d, .int .i64 (rowV a b).e]), .bool (rowB a b)]) ∧ Below w.heap.size w w' := by
  have Hr0_0 := Lib.hid (alloc_blk (.cells #[.int .i64 0, .int .i64 0, .int .i64 0, .int .i64 0, .int .i64 0] 84) (heap_alloc_new w (.cells #[.int .i64 0, .int .i64 0, .int .i64 0, .int .i64 0, .int .i64 0] 84)))
  have Hr0_1 := Lib.hid (show ((w.alloc (.cells #[.int .i64 0, .int .i64 0, .int .i64 0, .int .i64 0, .int .i64 0] 84)).alloc (.cells #[.int .i64 0, .int .i64 0, .int .i64 0, .int .i64 0, .int .i64 0] 84)).heap[w.heap.size + 1]? = some (.cells #[.int .i64 0, .int .i64 0, .int .i64 0, .int .i64 0, .int .i64 0] 84 (0, 0)) from by simpa using heap_alloc_new (w.alloc (.cells #[.int .i64 0, .int .i64 0, .int .i64 0, .int .i64 0, .int .i64 0] 84)) (.cells #[.int .i64 0, .int .i64 0, .int .i64 0, .int .i64 0, .int .i64 0] 84))
  have hV : rowV a b = (mrow .zero (a.zip b)).getD .zero := rfl
  have hB : rowB a b = (mrow .zero (a.zip b)).isSome := rfl
  generalize rowV a b = V at *
  generalize rowB a b = T at *
  have HV := Lib.hid hV
  have HT := Lib.hid hB
  clear hV hB
  obtain ⟨p, cap, rfl, hcap, hr⟩ := hv
  obtain ⟨p', cap', rfl, hcap', hr'⟩ := hu
  rw [hl] at hr hcap ⊢
  have Hr := Lib.hid hr
  have Hr' := Lib.hid hr'
  clear hr hr'
  go_enter Tryz.func145, Tryz.ntmps145
  go_wp2_with fail
  go_loopg [7] b.length (fun k i wr => ∃ (j : Nat) (s : Dw), k = b.length - j ∧ j ≤ b.length ∧ i = .int .i64 j ∧ Hid (mrow s ((a.zip b).drop j) = mrow .zero (a.zip b)) ∧ Hid s.ok ∧ Hid (wr.heap[w.heap.size + 1]? = some (.cells #[.int .i64 s.n.a, .int .i64 s.n.b, .int .i64 s.n.c, .int .i64 s.n.d, .int .i64 s.e] 84)) ∧ Hid (wr.heap[w.heap.size]? = some (.cells #[.int .i64 0, .int .i64 0, .int .i64 0, .int .i64 0, .int .i64 0] 84)) ∧ Hid (Below w.heap.size w wr))
  case atStart => exact ⟨0, .zero, rfl, Nat.zero_le _, rfl, Lib.hid rfl, Lib.hid zero_ok, Hr0_1, Hr0_0, ((Below.refl _ _).alloc (Nat.le_refl _) _).alloc (by simp) _⟩
  case round =>
    obtain ⟨j, s, rfl, hj, rfl, HI, Hs, HS, HR, Hb⟩ := hrel
    by_cases hlt : j < b.length
    · obtain ⟨g, rfl, _, hrow⟩ := Hr.out (by omega)
      obtain ⟨g', rfl, _, hrow'⟩ := Hr'.out (by omega)
      obtain ⟨x, hx⟩ : ∃ x, a[j]? = some x := ⟨a[j], List.getElem?_eq_getElem (by omega)⟩
      obtain ⟨y, hy⟩ : ∃ y, b[j]? = some y := ⟨b[j], List.getElem?_eq_getElem hlt⟩
      have r1 := hrow.below Hb.out hrow.lt
      have r2 := hrow'.below Hb.out hrow'.lt
      obtain ⟨c0, c1, c2, c3, c4⟩ := r1.cells hx
      obtain ⟨d0, d1, d2, d3, d4⟩ := r2.cells hy
      have hgl := r1.lt
      have hgl' := r2.lt
      have hsl := lt_of_block HS.out
      have hrl := lt_of_block HR.out
      have Hm := Lib.hid (smulD_any x y)
      have hez := mul_eb x y
      have hes := ok_eb Hs.out
      have Hadd := Lib.hid (fun w => saddD_any s (dMulV x y) w hes.1 hes.2 hez.1 hez.2)
      have Hstep := Lib.hid (mrow_step (s := s) (zip_at hx hy))
      have Hn := Lib.hid (fun h => dAddV_ok (x := s) (y := dMulV x y) h)
      have Heqx : ∀ w, (binOp .eql 84 (.agg #[.int .i64 x.n.a, .int .i64 x.n.b, .int .i64 x.n.c, .int .i64 x.n.d, .int .i64 x.e]) (.agg #[.int .i64 0, .int .i64 0, .int .i64 0, .int .i64 0, .int .i64 0])).run Tryz.prog w = .ok (.bool (eqDB x .zero)) w := fun w => eqD x .zero w
      have Heqy : ∀ w, (binOp .eql 84 (.agg #[.int .i64 y.n.a, .int .i64 y.n.b, .int .i64 y.n.c, .int .i64 y.n.d, .int .i64 y.e]) (.agg #[.int .i64 0, .int .i64 0, .int .i64 0, .int .i64 0, .int .i64 0])).run Tryz.prog w = .ok (.bool (eqDB y .zero)) w := fun w => eqD y .zero w
      have Hz1 := Lib.hid (@eqDB_iff x .zero)
      have Hz2 := Lib.hid (@eqDB_iff y .zero)
      simp only [] at Hstep
      clear hx hy hrow hrow' r1 r2 hez hes
      generalize dAddV s (dMulV x y) = n at *
      generalize dAddB s (dMulV x y) = t2 at *
      generalize dMulV x y = z at *
      generalize dMulB x y = t1 at *
      generalize eqDB x .zero = q1 at *
      generalize eqDB y .zero = q2 at *
      by_cases hq : q1 = true ∨ q2 = true
      · have h := Hstep.out.symm.trans HI.out
        rw [if_pos (hq.imp Hz1.out.1 Hz2.out.1)] at h
        have H := Lib.hid h
        clear h
        rcases hq with rfl | rfl
        · go_wp2_with fail
          go_roundg (b.length - (j + 1))
          case measure => omega
          case rel => exact ⟨j + 1, s, rfl, by omega, by go_num, H, Hs, HS, HR, Hb⟩
        · cases q1
          · go_wp2_with fail
            go_roundg (b.length - (j + 1))
            case measure => omega
            case rel => exact ⟨j + 1, s, rfl, by omega, by go_num, H, Hs, HS, HR, Hb⟩
          · go_wp2_with fail
            go_roundg (b.length - (j + 1))
            case measure => omega
            case rel => exact ⟨j + 1, s, rfl, by omega, by go_num, H, Hs, HS, HR, Hb⟩
      obtain ⟨rfl, rfl⟩ : q1 = false ∧ q2 = false := by cases q1 <;> cases q2 <;> simp at hq ⊢
      rw [if_neg (fun h => by rcases h with h | h; exact absurd (Hz1.out.2 h) (by decide); exact absurd (Hz2.out.2 h) (by decide))] at Hstep
      clear hq Hz1 Hz2
      go_upto_region 6 with fail
      clear Heqx Heqy
      go_cut [8, 9] from 33 to 45 (fun s8 s9 wx => ∃ k, s8 = .pointer (some ⟨k, 0, none⟩) ∧ s9 = .bool t1 ∧ wx.cell? ⟨k, 0, none⟩ = some (.int .i64 z.n.a) ∧ wx.cell? ⟨k, 1, none⟩ = some (.int .i64 z.n.b) ∧ wx.cell? ⟨k, 2, none⟩ = some (.int .i64 z.n.c) ∧ wx.cell? ⟨k, 3, none⟩ = some (.int .i64 z.n.d) ∧ wx.cell? ⟨k, 4, none⟩ = some (.int .i64 z.e) ∧ Hid (Below wr.heap.size wr wx))
      case first =>
        have hS : E2 wr g g' (j * 5) x y wr := ⟨c0, c1, c2, c3, c4, d0, d1, d2, d3, d4, hgl, hgl', Below.refl _ _⟩
        have hq : wr.heap.size ≤ wr.heap.size := Nat.le_refl _
        have hn : g < wr.heap.size ∧ g' < wr.heap.size := ⟨hgl, hgl'⟩
        have hw : wr.heap.size ≤ wr.heap.size := Nat.le_refl _
        go_region_held3 (fun w' => w'.cell? ⟨g, j * 5, none⟩ = some (.int .i64 x.n.a) ∧ w'.cell? ⟨g, j * 5 + 1, none⟩ = some (.int .i64 x.n.b) ∧ w'.cell? ⟨g, j * 5 + 2, none⟩ = some (.int .i64 x.n.c) ∧ w'.cell? ⟨g, j * 5 + 3, none⟩ = some (.int .i64 x.n.d) ∧ w'.cell? ⟨g, j * 5 + 4, none⟩ = some (.int .i64 x.e) ∧ w'.cell? ⟨g', j * 5, none⟩ = some (.int .i64 y.n.a) ∧ w'.cell? ⟨g', j * 5 + 1, none⟩ = some (.int .i64 y.n.b) ∧ w'.cell? ⟨g', j * 5 + 2, none⟩ = some (.int .i64 y.n.c) ∧ w'.cell? ⟨g', j * 5 + 3, none⟩ = some (.int .i64 y.n.d) ∧ w'.cell? ⟨g', j * 5 + 4, none⟩ = some (.int .i64 y.e) ∧ g < w'.heap.size ∧ g' < w'.heap.size ∧ Below wr.heap.size wr w') (first | (show E2 wr g g' (j * 5) x y _; (with_reducible exact hS.drew)) | (show E2 wr g g' (j * 5) x y _; (with_reducible exact (hS.alloc _).drew)) | (show E2 wr g g' (j * 5) x y _; (with_reducible refine E2.below ?_ hbR); first | assumption | exact ⟨by assumption, by assumption, by assumption, by assumption, by assumption, by assumption, by assumption, by assumption, by assumption, by assumption, by assumption, by assumption, by assumption⟩) | (show E2 wr g g' (j * 5) x y _; (with_reducible refine E2.alloc ?_ _); first | assumption | exact ⟨by assumption, by assumption, by assumption, by assumption, by assumption, by assumption, by assumption, by assumption, by assumption, by assumption, by assumption, by assumption, by assumption⟩) | (show E2 wr g g' (j * 5) x y _; (with_reducible refine E2.realloc (p := .cells #[.int .i64 0, .int .i64 0, .int .i64 0, .int .i64 0, .int .i64 0] 84) ?_ hq hn hw); first | assumption | exact ⟨by assumption, by assumption, by assumption, by assumption, by assumption, by assumption, by assumption, by assumption, by assumption, by assumption, by assumption, by assumption, by assumption⟩) | (show E2 wr g g' (j * 5) x y _; (with_reducible refine E2.set5 (lim := wr.heap.size) ?_ ?_ hn hw); (first | assumption | exact ⟨by assumption, by assumption, by assumption, by assumption, by assumption, by assumption, by assumption, by assumption, by assumption, by assumption, by assumption, by assumption, by assumption⟩); (first | assumption | exact Nat.le_refl _)))
          (first | (go_at_call 63; (first | (with_reducible refine (Hm.out _).mono ?_)); rintro e wR ⟨rfl, hbR⟩; (first | (have hq := Nat.le_trans hq hbR.size) | (have hq : wr.heap.size ≤ wR.heap.size := by have := hbR.size; simpa using this) | (have hq : wr.heap.size ≤ wR.heap.size := by have := hbR.size; simp at this; exact Nat.le_of_succ_le this) | (have hq := Nat.le_trans hq (Nat.le_of_succ_le (by have := hbR.size; simpa using this)))); obtain ⟨hcR, hfR, hzR⟩ := bgrow hbR; (first | (have zg := hzR _ zg) | (have zg := hzR _ (lt_alloc _ _); try simp at zg) | skip)))
        all_goals go_wp2_with fail
        all_goals go_meet
        all_goals refine ⟨_, rfl, rfl, ?_, ?_, ?_, ?_, ?_, E2.low (g := g) (g' := g') (o := j * 5) (x := x) (y := y) (by assumption)⟩
        all_goals (simp [*, go_sem]; done)
      case rest =>
      obtain ⟨k, rfl, rfl, k0, k1, k2, k3, k4, Hbx⟩ := hcut
      have HS2 := Lib.hid (below_blk Hbx.out hsl HS.out)
      have HR2 := Lib.hid (below_blk Hbx.out hrl HR.out)
      have Hb3 := Lib.hid (below_nx Hb.out Hbx.out)
      have hs3 := Hb3.out.size
      have hsx := Hbx.out.size
      have hkl := World.block_lt_of_cell? _ _ k0
      clear c0 c1 c2 c3 c4 d0 d1 d2 d3 d4 HS HR Hb Hm
      obtain ⟨m0, m1, m2, m3, m4⟩ := blk_cells5 HS2.out
      go_wp2_with fail
      refine (Hadd.out _).mono ?_
      rintro e w4 ⟨rfl, hb4⟩
      have hsl4 := lt_of_block HS2.out
      have HS4 := Lib.hid (below_blk hb4 (lt_of_block HS2.out) HS2.out)
      have HR4 := Lib.hid (below_blk hb4 (lt_of_block HR2.out) HR2.out)
      have Hb4 := Lib.hid (below_nx Hb3.out hb4)
      have hs4 := Hb4.out.size
      have hz4 := lt_of_block HS4.out
      clear hb4 HS2 HR2 Hb3 Hadd k0 k1 k2 k3 k4 m0 m1 m2 m3 m4
      have HR := Lib.hid (alloc_blk (.cells #[.int .i64 n.n.a, .int .i64 n.n.b, .int .i64 n.n.c, .int .i64 n.n.d, .int .i64 n.e] 84) HR4.out)
      have HS5 := Lib.hid (alloc_blk (.cells #[.int .i64 n.n.a, .int .i64 n.n.b, .int .i64 n.n.c, .int .i64 n.n.d, .int .i64 n.e] 84) HS4.out)
      have Hb := Lib.hid (Hb4.out.alloc hs4 (.cells #[.int .i64 n.n.a, .int .i64 n.n.b, .int .i64 n.n.c, .int .i64 n.n.d, .int .i64 n.e] 84))
      obtain ⟨e0, e1, e2, e3, e4⟩ := blk_cells5 HR4.out
      have f1 := fun o => free_at HR4.out o
      have hrl4 := lt_of_block HR4.out
      cases t1 with
      | false =>
        have h := Hstep.out.symm.trans HI.out
        simp only [Bool.false_and, Bool.false_eq_true, if_false] at h
        obtain rfl : V = .zero := HV.out.trans (by rw [← h]; rfl)
        obtain rfl : T = false := HT.out.trans (by rw [← h]; rfl)
        go_wp2_with fail
        obtain ⟨k0, k1, k2, k3, k4⟩ := blk_cells5 (alloc_blk (.cells #[.int .i64 n.n.a, .int .i64 n.n.b, .int .i64 n.n.c, .int .i64 n.n.d, .int .i64 n.e] 84) (set5_at (u0 := .int .i64 0) (u1 := .int .i64 0) (u2 := .int .i64 0) (u3 := .int .i64 0) (u4 := .int .i64 0) HR4.out))
        refine bodyPost_ret (v := .tuple #[(.agg #[.int .i64 Dw.zero.n.a, .int .i64 Dw.zero.n.b, .int .i64 Dw.zero.n.c, .int .i64 Dw.zero.n.d, .int .i64 Dw.zero.e]), .bool false]) (by simp only [results, Tryz.results145]; simp [go_sem, k0, k1, k2, k3, k4, Dw.zero, Zw.zero]) rfl ⟨rfl, ?_⟩
        have := Hb4.out
        have := Hb4.out.size
        go_grown
      | true =>
        cases t2 with
        | false =>
          have h := Hstep.out.symm.trans HI.out
          simp only [Bool.and_false, Bool.false_eq_true, if_false] at h
          obtain rfl : V = .zero := HV.out.trans (by rw [← h]; rfl)
          obtain rfl : T = false := HT.out.trans (by rw [← h]; rfl)
          go_wp2_with fail
          obtain ⟨k0, k1, k2, k3, k4⟩ := blk_cells5 (alloc_blk (.cells #[.int .i64 n.n.a, .int .i64 n.n.b, .int .i64 n.n.c, .int .i64 n.n.d, .int .i64 n.e] 84) (set5_at (u0 := .int .i64 0) (u1 := .int .i64 0) (u2 := .int .i64 0) (u3 := .int .i64 0) (u4 := .int .i64 0) HR4.out))
          refine bodyPost_ret (v := .tuple #[(.agg #[.int .i64 Dw.zero.n.a, .int .i64 Dw.zero.n.b, .int .i64 Dw.zero.n.c, .int .i64 Dw.zero.n.d, .int .i64 Dw.zero.e]), .bool false]) (by simp only [results, Tryz.results145]; simp [go_sem, k0, k1, k2, k3, k4, Dw.zero, Zw.zero]) rfl ⟨rfl, ?_⟩
          have := Hb4.out
          have := Hb4.out.size
          go_grown
        | true =>
          have h := Hstep.out.symm.trans HI.out
          simp only [Bool.and_self, if_true] at h
          obtain ⟨q0, q1, q2, q3, q4⟩ := blk_cells5 HS4.out
          have f2 := fun o => free_at HS4.out o
          have Hsn := Lib.hid (alloc_blk (.cells #[.int .i64 n.n.a, .int .i64 n.n.b, .int .i64 n.n.c, .int .i64 n.n.d, .int .i64 n.e] 84) (set5_at (u0 := .int .i64 n.n.a) (u1 := .int .i64 n.n.b) (u2 := .int .i64 n.n.c) (u3 := .int .i64 n.n.d) (u4 := .int .i64 n.e) HS4.out))
          have hne : w.heap.size ≠ w.heap.size + 1 := by omega
          have Hrn := Lib.hid (alloc_blk (.cells #[.int .i64 n.n.a, .int .i64 n.n.b, .int .i64 n.n.c, .int .i64 n.n.d, .int .i64 n.e] 84) (set5_blk (g := w.heap.size + 1) (u0 := .int .i64 n.n.a) (u1 := .int .i64 n.n.b) (u2 := .int .i64 n.n.c) (u3 := .int .i64 n.n.d) (u4 := .int .i64 n.e) hne HR4.out))
          go_wp2_with fail
          go_roundg (b.length - (j + 1))
          case measure => omega
          case rel =>
            refine ⟨j + 1, n, rfl, by omega, by go_num, Lib.hid h, Lib.hid (Hn.out (by trivial)), Hsn, Hrn, ?_⟩
            have := Hb4.out
            have := Hb4.out.size
            show Below _ _ _
            go_grown
    · obtain rfl : j = b.length := by omega
      have hzl : (a.zip b).length = b.length := by rw [List.length_zip]; omega
      have h := HI.out
      rw [List.drop_of_length_le (by omega)] at h
      obtain rfl : V = s := HV.out.trans (by rw [← h]; rfl)
      obtain rfl : T = true := HT.out.trans (by rw [← h]; rfl)
      obtain ⟨q0, q1, q2, q3, q4⟩ := blk_cells5 HS.out
      obtain ⟨e0, e1, e2, e3, e4⟩ := blk_cells5 HR.out
      have f1 := fun o => free_at HR.out o
      have hrl := lt_of_block HR.out
      go_wp2_with fail
      obtain ⟨k0, k1, k2, k3, k4⟩ := blk_cells5 (set5_at (u0 := .int .i64 V.n.a) (u1 := .int .i64 V.n.b) (u2 := .int .i64 V.n.c) (u3 := .int .i64 V.n.d) (u4 := .int .i64 V.e) HR.out)
      refine bodyPost_ret (v := .tuple #[(.agg #[.int .i64 V.n.a, .int .i64 V.n.b, .int .i64 V.n.c, .int .i64 V.n.d, .int .i64 V.e]), .bool true]) (by simp only [results, Tryz.results145]; simp [go_sem, k0, k1, k2, k3, k4]) rfl ⟨rfl, ?_⟩
      have := Hb.out
      go_grown
end Go.Proofs.YtmpafidkpangeaaGreat
