/- The program's transpose and applyRows. -/
import Derived.Test.YtlmiebeffdcfhaaGreatUBaseB15
import Derived.Test.YtlmiebeffdcfhaaGreatUBaseC02
namespace Go.Proofs.YtlmiebeffdcfhaaGreat
open Go.RowKit
theorem colsM_get {L : List (List Dw)} {j : Nat} (hj : j < L.length) : (colsM L)[j]? = some (col L j) := by
  rw [colsM, List.getElem?_map, List.getElem?_range hj]; rfl
attribute [local irreducible] World.cell?
set_option maxRecDepth 100000 in
set_option maxHeartbeats 6400000 in
theorem itrans (B C : Nat) (v : Value) (L : List (List Dw)) (w : World) (hv : DSM w B C v L) (hk : ∀ r ∈ L, L.length ≤ r.length) (hn : L.length ≤ 1048576) :
    Calls Tryz.prog 91 #[v] w fun e w' => ∃ u, e = .returned u ∧ DSM w' w.heap.size w'.heap.size u (colsM L) ∧ Below w.heap.size w w' := by
  obtain ⟨i0, hi, hz0, hz1, hz2⟩ := info_parts infoDs
  obtain ⟨j0, gi, gz0, gz1, gz2⟩ := info_parts infoDw
  obtain ⟨a, cap, rfl, hcap, hr⟩ := hv
  have Hr := Lib.hid hr
  have Hk := Lib.hid hk
  have HNl := Lib.hid (colsM_len L)
  have HN := Lib.hid (fun (j : Nat) (hj : j < L.length) => colsM_get (L := L) hj)
  clear hr hk
  generalize colsM L = N at *
  go_enter Tryz.func91, Tryz.ntmps91
  go_wp2_with (first | (at_make; refine wpList_make_full _ rfl _ _ 32 rfl w.heap.size 59 i0 (.slice none 0 0) 1 Tryz.underlying32 hi hz0 hz1 .i64 .i64 L.length L.length L.length rfl rfl rfl rfl (by rw [hz2]; omega) (by unfold maxLen; omega) (Nat.le_refl _) ?_))
  intro w1 hown hgrow
  have hb1 : Below w.heap.size w w1 := (Below.refl _ _).grown hgrow (Nat.le_refl _) (fun k hk => by cases hk)
  have hrow1 : MRow w1 w.heap.size w1.heap.size w.heap.size (List.replicate L.length []) := by
    rcases hown.2 with ⟨h, _⟩ | ⟨g, cap, cur, hv, hb, hg, _, _, hs, ht⟩
    · cases h
    · obtain ⟨rfl, rfl⟩ : g = w.heap.size ∧ cap = L.length := by injection hv with hv _ hv2; injection hv with hv; injection hv with hv; exact ⟨hv.symm, hv2.symm⟩
      refine ⟨cur, _, hg, ?_, rows_nil (n := L.length)⟩
      rw [List.length_replicate, ← made_slices L.length, Nat.mul_one]
      first | exact ht | simpa using ht
  rw [← HNl.out] at hrow1
  have Hb1 := Lib.hid hb1
  have Hrow1 := Lib.hid hrow1
  clear hown hgrow hb1 hrow1
  go_wp2_with fail
  go_loopg [13] L.length (fun n i wr => ∃ j : Nat, n = L.length - j ∧ j ≤ L.length ∧ i = .int .i64 j ∧ Hid (MRow wr w.heap.size wr.heap.size w.heap.size (N.take j ++ List.replicate (N.length - j) [])) ∧ Hid (Below w.heap.size w wr))
  case atStart => exact ⟨0, rfl, Nat.zero_le _, rfl, by simpa using Hrow1, Hb1⟩
  case round =>
    obtain ⟨j, rfl, hj, rfl, Hrow, Hb⟩ := hrel
    obtain ⟨wo, hwo⟩ : ∃ wo, wo = wr := ⟨wr, rfl⟩
    subst hwo
    have hs := Hb.out.size
    by_cases hlt : j < L.length
    · have Hst := Lib.hid (halfM_set (HN.out j hlt))
      have hjN : j < N.length := by have := HNl.out; omega
      go_wp2_with (first | (at_make; refine wpList_make_own _ rfl _ _ 59 rfl wo.heap.size 70 j0 (.agg #[.int .i64 0, .int .i64 0, .int .i64 0, .int .i64 0, .int .i64 0]) 5 Tryz.underlying59 gi gz0 gz1 .i64 .i64 L.length L.length rfl rfl rfl (by rw [gz2]; omega) (by unfold maxLen; omega) (Nat.le_refl _) ?_))
      intro w2 hown2 hgrow2
      have Hb2 := Lib.hid (show Below wo.heap.size wo w2 from (Below.refl _ _).grown hgrow2 (Nat.le_refl _) (fun k hk => by cases hk))
      have Hown2 := Lib.hid hown2
      clear hown2 hgrow2
      go_wp2_with fail
      go_loopg [5, 21] L.length (fun n out i ws => ∃ k : Nat, n = L.length - k ∧ k ≤ L.length ∧ i = .int .i64 k ∧ Hid (ws.ownsRow wo.heap.size 70 5 out k (flat ((col L j).take k))) ∧ Hid (Below wo.heap.size wo ws))
      case atStart => exact ⟨0, rfl, Nat.zero_le _, rfl, Lib.hid (by simpa [flat] using Hown2.out), Hb2⟩
      case round =>
        obtain ⟨k, rfl, hk, rfl, Hown, Hbi⟩ := hrel
        have hsi := Hbi.out.size
        have HB := Lib.hid (Hb.out.trans (Hbi.out.mono hs))
        have hsB := HB.out.size
        by_cases hlk : k < L.length
        · obtain ⟨g, rfl, _, _, hrow⟩ := Hr.out (by omega)
          obtain ⟨r, hr⟩ : ∃ r, L[k]? = some r := ⟨L[k], List.getElem?_eq_getElem hlk⟩
          have hkr := Hk.out r (List.mem_of_getElem? hr)
          obtain ⟨x, hx⟩ : ∃ x, r[j]? = some x := ⟨r[j]'(by omega), List.getElem?_eq_getElem _⟩
          have r1 := hrow.block (HB.out.block _ hrow.lt) fun k _ _ hk => HB.out.block k hk
          obtain ⟨p, pc, c0, hd1⟩ := r1.cell hr
          obtain ⟨p', pc', he, hpc, hd2⟩ := hd1
          obtain ⟨g2, hp, _, _, hrow2⟩ := hd2 (by omega)
          injection he with he1 he2 he3
          subst he1 he3 hp
          obtain ⟨d0, d1, d2, d3, d4⟩ := hrow2.cells hx
          have Hstep := Lib.hid (col_step hr hx)
          have hgl := r1.lt
          have hgl2 := hrow2.lt
          clear hd2 r1 hrow hrow2 hr hx he2
          go_wp2_with (first
            | (at_builtin; refine wpList_append_own _ rfl _ _ 59 rfl wo.heap.size 70 j0 (.agg #[.int .i64 0, .int .i64 0, .int .i64 0, .int .i64 0, .int .i64 0]) 5 40 Tryz.underlying59 gi gz0 gz1 gz2 rfl (by decide) _ _ _ rfl (Hown.out.alloc _) ⟨wr.heap.size, 0, none⟩ 1 1 (fl x) rfl rfl (fl_new _ _ _) (fl_plain _) ?d3 ?d4 ?d5 ?_))
          case d3 => unfold maxLen; omega
          case d4 => omega
          case d5 => first | omega | (simp; omega) | (simp; omega)
          intro v' w4 hown' hgrow _
          have HB4 := Lib.hid ((Hbi.out.alloc hsi (.cells #[.int .i64 x.n.a, .int .i64 x.n.b, .int .i64 x.n.c, .int .i64 x.n.d, .int .i64 x.e] 70)).grown hgrow (by simp; omega) (fun q hq => by have := Hown.out.lt q hq; omega))
          rw [Hstep.out] at hown'
          have Hown4 := Lib.hid hown'
          clear hown' hgrow
          go_wp2_with fail
          go_roundg (L.length - (k + 1))
          case measure => omega
          case rel => exact ⟨k + 1, rfl, by omega, by go_num, Hown4.out, HB4⟩
        · obtain rfl : k = L.length := by omega
          have hown := Hown.out
          rw [show L.length = (col L j).length from (col_len L j).symm, List.take_length] at hown
          have hd := DSl.of_own hown
          have hr2 := Hrow.out.block (Hbi.out.block _ Hrow.out.lt) fun k _ _ hk => Hbi.out.block k hk
          have f1 := fun o => hr2.free o
          obtain ⟨a9, c9, e0, -⟩ := hr2.cell (halfM_at hjN)
          have hgl := Nat.lt_of_lt_of_le Hrow.out.lt hsi
          have hr3 := Hrow.out.put (j := j) (by simp; omega) hd.upto hs hsi fun k hk => Hbi.out.block k hk
          rw [Hst.out] at hr3
          have Hr3 := Lib.hid hr3
          obtain ⟨a2, cap3, rfl, -, -⟩ := hd
          clear hr3 hr2 hown Hown Hrow Hbi Hb
          go_wp2_with fail
          go_roundg (L.length - (j + 1))
          case measure => omega
          case rel =>
            refine ⟨j + 1, rfl, by omega, by go_num, by simpa using Hr3, ?_⟩
            have := HB.out
            show Below _ _ _
            go_grown
    · obtain rfl : j = L.length := by omega
      have hrow := Hrow.out
      rw [← HNl.out] at hrow
      have HD := Lib.hid (show DSM wo w.heap.size wo.heap.size (.slice (some ⟨w.heap.size, 0, none⟩) L.length L.length) N from ⟨_, _, by rw [HNl.out], by rw [HNl.out]; exact Nat.le_refl _, fun _ => ⟨_, rfl, Nat.le_refl _, hrow.lt, by simpa using hrow⟩⟩)
      clear hrow Hrow
      go_wp2_with fail
      go_ret
      exact ⟨_, rfl, HD.out, Hb.out⟩
theorem ok_Eb {l : List Dw} (h : ∀ x ∈ l, x.ok) : Eb l := fun x hx => ok_eb (h x hx)
set_option maxRecDepth 100000 in
set_option maxHeartbeats 6400000 in
theorem iapplyR (B C D : Nat) (v u : Value) (M : List (List Dw)) (b : List Dw) (w : World) (hv : DSM w B C v M) (hu : DSl w D u b) (hM : ∀ r ∈ M, r.length = b.length ∧ ∀ x ∈ r, x.ok) (hb : ∀ x ∈ b, x.ok) (hl : b.length ≤ 16) (hn : M.length ≤ 1048576) :
    Calls Tryz.prog 90 #[v, u] w fun e w' => (∃ r, e = .returned (.tuple #[r, .bool (M.all fun r => rowB r b)]) ∧ DSl w' w.heap.size r (if (M.all fun r => rowB r b) = true then M.map (fun r => rowV r b) else [])) ∧ Below w.heap.size w w' := by
  obtain ⟨i0, hi, hz0, hz1, hz2⟩ := info_parts infoDw
  have Hu := Lib.hid hu
  have HC := Lib.hid (fun W (p : Value) (r : List Dw) (hr : r ∈ M) (h : DSl W B p r) (h' : DSl W D u b) => icmbMul B D p u r b W h h' (ok_Eb (hM r hr).2) (ok_Eb hb) (hM r hr).1 hl)
  have HO := Lib.hid (fun (r : List Dw) (hr : r ∈ M) => row_sum (hM r hr).2 hb)
  have HP := Lib.hid (fun (r : List Dw) => Nat.le_trans (len_cmbM dMulV dMulB r b) hl)
  clear hM hb hl hu
  obtain ⟨SB, hSB⟩ : ∃ SB, SB = M.all fun r => rowB r b := ⟨_, rfl⟩
  obtain ⟨SL, hSL⟩ : ∃ SL, SL = if SB = true then M.map (fun r => rowV r b) else [] := ⟨_, rfl⟩
  rw [← hSB, ← hSL]
  have HSB := Lib.hid hSB
  have HSL := Lib.hid hSL
  clear hSB hSL
  obtain ⟨a, cap, rfl, hcap, hr⟩ := hv
  have Hr := Lib.hid hr
  clear hr
  go_enter Tryz.func90, Tryz.ntmps90
  go_wp2_with (first | (at_make; refine wpList_make_own _ rfl _ _ 59 rfl w.heap.size 70 i0 (.agg #[.int .i64 0, .int .i64 0, .int .i64 0, .int .i64 0, .int .i64 0]) 5 Tryz.underlying59 hi hz0 hz1 .i64 .i64 M.length M.length rfl rfl rfl (by rw [hz2]; omega) (by unfold maxLen; omega) (Nat.le_refl _) ?_))
  intro w1 hown hgrow
  have Hb1 := Lib.hid (show Below w.heap.size w w1 from (Below.refl _ _).grown hgrow (Nat.le_refl _) (fun k hk => by cases hk))
  have Hown1 := Lib.hid hown
  clear hown hgrow
  go_wp2_with fail
  go_loopg [6, 17] M.length (fun n out i wr => ∃ j : Nat, n = M.length - j ∧ j ≤ M.length ∧ i = .int .i64 j ∧ Hid (wr.ownsRow w.heap.size 70 5 out j (flat ((M.map fun r => rowV r b).take j))) ∧ Hid ((M.take j).all (fun r => rowB r b) = true) ∧ Hid (Below w.heap.size w wr))
  case atStart => exact ⟨0, rfl, Nat.zero_le _, rfl, Lib.hid (by simpa [flat] using Hown1.out), Lib.hid (show (List.take 0 M).all _ = true from rfl), Hb1⟩
  case round =>
    obtain ⟨j, rfl, hj, rfl, Hown, Hall, Hb⟩ := hrel
    have hs := Hb.out.size
    by_cases hlt : j < M.length
    · obtain ⟨g, rfl, _, _, hrow⟩ := Hr.out (by omega)
      obtain ⟨r, hr⟩ : ∃ r, M[j]? = some r := ⟨M[j], List.getElem?_eq_getElem hlt⟩
      have hmem := List.mem_of_getElem? hr
      have r1 := hrow.block (Hb.out.block _ hrow.lt) fun k _ _ hk => Hb.out.block k hk
      obtain ⟨p, pc, c0, hd1⟩ := r1.cell hr
      have hgl := r1.lt
      have Hx := Lib.hid (HC.out wr _ r hmem hd1.dsl (Hu.out.block fun k _ hk => Hb.out.block k hk))
      have HQ := Lib.hid (HO.out r hmem)
      have HV := Lib.hid (show rowV r b = (rowO r b).getD .zero from rfl)
      have HT := Lib.hid (show rowB r b = (rowO r b).isSome from rfl)
      have HE := Lib.hid (eb_cmbM r b)
      have hlen := HP.out r
      have Hstep := Lib.hid (app_step (v := b) hr)
      have Hat := Lib.hid (all_take (p := fun r => rowB r b) hr Hall.out)
      have Hno := Lib.hid (fun h => all_no (p := fun r => rowB r b) hr h)
      clear hd1 r1 hrow hr hmem
      generalize rowV r b = x at *
      generalize rowB r b = t at *
      generalize rowO r b = O at *
      generalize cmbL dMulV dMulB r b = P at *
      generalize cmbB dMulB r b = q at *
      go_wp2_with fail
      refine (Hx.out).mono ?_
      rintro e w2 ⟨⟨y, rfl, hd2⟩, hb2⟩
      have Hown2 := Lib.hid (row_below Hown.out hb2)
      have Hb2 := Lib.hid (Hb.out.trans (hb2.mono hs))
      have hs2 := Hb2.out.size
      clear Hown Hb Hx c0
      cases q with
      | false =>
        have hO : O = none := HQ.out
        subst hO
        obtain rfl : t = false := HT.out
        have hS : (M.all fun r => rowB r b) = false := Hno.out rfl
        obtain rfl : SB = false := HSB.out.trans hS
        obtain rfl : SL = [] := HSL.out
        clear hd2 hb2
        go_wp2_with fail
        go_returns
        exact ⟨⟨_, rfl, DSl.nil⟩, by have := Hb2.out; go_grown⟩
      | true =>
        have hO : O = sumD .zero P := HQ.out
        subst hO
        have HS := Lib.hid (isumOf _ y P w2 hd2 HE.out hlen)
        rw [← HV.out, ← HT.out] at HS
        clear hd2 hb2
        go_wp2_with fail
        refine (HS.out).mono ?_
        rintro e w3 ⟨rfl, hb3⟩
        have Hown3 := Lib.hid ((row_below Hown2.out hb3).alloc (.cells #[.int .i64 x.n.a, .int .i64 x.n.b, .int .i64 x.n.c, .int .i64 x.n.d, .int .i64 x.e] 70))
        have Hb3 := Lib.hid (Hb2.out.trans (hb3.mono hs2))
        have hs3 := Hb3.out.size
        have Hbx := Lib.hid (heap_alloc_new w3 (.cells #[.int .i64 x.n.a, .int .i64 x.n.b, .int .i64 x.n.c, .int .i64 x.n.d, .int .i64 x.e] 70))
        obtain ⟨q0, q1, q2, q3, q4⟩ := blk_cells5 Hbx.out
        clear hb3 Hown2 Hb2 HS
        cases t with
        | false =>
          have hS : (M.all fun r => rowB r b) = false := Hno.out rfl
          obtain rfl : SB = false := HSB.out.trans hS
          obtain rfl : SL = [] := HSL.out
          go_wp2_with fail
          go_returns
          exact ⟨⟨_, rfl, DSl.nil⟩, by have := Hb3.out; go_grown⟩
        | true =>
          go_wp2_with (first
            | (at_builtin; refine wpList_append_own _ rfl _ _ 59 rfl w.heap.size 70 i0 (.agg #[.int .i64 0, .int .i64 0, .int .i64 0, .int .i64 0, .int .i64 0]) 5 40 Tryz.underlying59 hi hz0 hz1 hz2 rfl (by decide) _ _ _ rfl (Hown3.out.alloc _) ⟨w3.heap.size + 1, 0, none⟩ 1 1 (fl x) rfl rfl (by simpa using fl_new (w3.alloc (.cells #[.int .i64 x.n.a, .int .i64 x.n.b, .int .i64 x.n.c, .int .i64 x.n.d, .int .i64 x.e] 70)) x 70) (fl_plain _) ?d3 ?d4 ?d5 ?_))
          case d3 => unfold maxLen; omega
          case d4 => omega
          case d5 => first | omega | (simp; omega) | (simp; omega)
          intro v' w4 hown' hgrow _
          have HB4 := Lib.hid (((Hb3.out.alloc hs3 (.cells #[.int .i64 x.n.a, .int .i64 x.n.b, .int .i64 x.n.c, .int .i64 x.n.d, .int .i64 x.e] 70)).alloc (by simp; omega) (.cells #[.int .i64 x.n.a, .int .i64 x.n.b, .int .i64 x.n.c, .int .i64 x.n.d, .int .i64 x.e] 70)).grown hgrow (by simp; omega) (fun q hq => by have := Hown3.out.lt q hq; omega))
          rw [Hstep.out] at hown'
          have Hown4 := Lib.hid hown'
          clear hown' hgrow
          go_wp2_with fail
          go_roundg (M.length - (j + 1))
          case measure => omega
          case rel => exact ⟨j + 1, rfl, by omega, by go_num, Hown4.out, Lib.hid Hat.out, HB4⟩
    · obtain rfl : j = M.length := by omega
      have hall := Hall.out
      rw [List.take_length] at hall
      obtain rfl : SB = true := HSB.out.trans hall
      obtain rfl : SL = M.map (fun r => rowV r b) := HSL.out
      have hown := Hown.out
      rw [show M.length = (M.map fun r => rowV r b).length by rw [List.length_map], List.take_length] at hown
      have Hd := Lib.hid (DSl.of_own hown)
      clear hown
      go_wp2_with fail
      go_returns
      exact ⟨⟨_, rfl, Hd.out⟩, Hb.out⟩
end Go.Proofs.YtlmiebeffdcfhaaGreat
