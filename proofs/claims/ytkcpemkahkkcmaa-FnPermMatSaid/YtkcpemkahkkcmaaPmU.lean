/- The model's PermutationMatrix. -/
import Derived.Test.YtkcpemkahkkcmaaPmT
import Derived.Test.YtkcpemkahkkcmaaBaseB09
namespace Go.Proofs.Ytkcpemkahkkcmaa
open Go.RowKit
theorem pmL_len (p : List Int) : (pmL p).length = 2 ^ p.length := by rw [pmL, List.length_map, List.length_range]
theorem pmL_step {p : List Int} {j : Nat} (hj : j < 2 ^ p.length) : (pmL p).take (j + 1) = (pmL p).take j ++ [basisL (p.length : Int) (pix p (j : Int))] := by
  rw [List.take_add_one, pmL, List.getElem?_map, List.getElem?_range hj]
  rfl
theorem basis_lenP {n i : Int} (h : 1 ≤ n ∧ n ≤ 4) (h' : 0 ≤ i ∧ i ≤ 2 ^ n.toNat - 1) : (basisL n i).length = 2 ^ n.toNat := by
  unfold basisL
  rw [if_pos ⟨h.1, h.2, h'.1, h'.2⟩, List.length_set, List.length_replicate]
theorem pix_all : allP.all (fun p => (List.range (2 ^ p.length)).all fun i => decide (0 ≤ pix p (i : Int) ∧ pix p (i : Int) ≤ 2 ^ p.length - 1)) = true := by decide +kernel
theorem pix_in {p : List Int} (h : permB p = true) {i : Nat} (hi : i < 2 ^ p.length) : 0 ≤ pix p (i : Int) ∧ pix p (i : Int) ≤ 2 ^ p.length - 1 := by
  have h1 := List.all_eq_true.1 (List.all_eq_true.1 pix_all p (perm_mem h)) i (List.mem_range.2 hi)
  exact of_decide_eq_true h1
theorem pmL_rows {p : List Int} (h : permB p = true) : ∀ r ∈ pmL p, (pmL p).length ≤ r.length := by
  intro r hr
  obtain ⟨i, hi, rfl⟩ := List.mem_map.1 hr
  have hl := (permB_iff.1 h).2
  rw [pmL_len, basis_lenP (by omega) (by rw [Int.toNat_natCast]; exact pix_in h (List.mem_range.1 hi)), Int.toNat_natCast]
  exact Nat.le_refl _
attribute [local irreducible] World.cell?
set_option maxRecDepth 100000 in
set_option maxHeartbeats 3200000 in
theorem spm1 (B : Nat) (v : Value) (p : List Int) (w : World) (hv : intE.Sl w B v p) (hep : Ei p) (hP : permB p = true) (hl : p.length = 1) :
    Calls Try.prog 35 #[v] w fun e w' => ∃ u, e = .returned u ∧ DSM w' w.heap.size w'.heap.size u (pmM p) ∧ Below w.heap.size w w' := by
  obtain ⟨i0, hi, hz0, hz1, hz2⟩ := info_parts infoDs
  have Hv := Lib.hid hv
  have H1 := Lib.hid (fun W (h : intE.Sl W B v p) => sisP B v p W h hep (by omega))
  rw [hP] at H1
  have H2 := Lib.hid (fun (j : Nat) (hj : j < 2) W (h : intE.Sl W B v p) => spix B v p (j : Int) W h hep (by omega) (by omega) (by omega))
  have H3 := Lib.hid (fun (x : Int) W => sbasis 1 x W)
  have Hst := Lib.hid (fun (j : Nat) (hj : j < 2) => show (pmL p).take (j + 1) = (pmL p).take j ++ [basisL 1 (pix p (j : Int))] by have h := pmL_step (p := p) (j := j) (by rw [hl]; omega); rw [hl] at h; exact h)
  have hL : (pmL p).length = 2 := by rw [pmL_len, hl]
  have HLl := Lib.hid hL
  have H4 := Lib.hid (fun D E c W (h : DSM W D E c (pmL p)) => scolumns D E c (pmL p) W h (pmL_rows hP) (by omega))
  rw [show pmM p = colsM (pmL p) from if_pos hP]
  generalize pmL p = L at *
  clear hep hP hL
  obtain ⟨a, cap, rfl, hcap, -⟩ := hv
  rw [hl] at hcap Hv H1 H2 ⊢
  clear hl
  go_enter Try.func35, Try.ntmps35
  go_wp2_with fail
  go_loopg [3, 4] 2 (fun n out i wr => ∃ (j : Nat) (vs : List Value), n = 2 - j ∧ j ≤ 2 ∧ i = .int .i64 j ∧ Hid (wr.ownsRow w.heap.size 31 1 out j vs) ∧ Hid (RwS wr w.heap.size wr.heap.size vs (L.take j)) ∧ Hid (Below w.heap.size w wr))
  case atStart => exact ⟨0, [], rfl, Nat.zero_le _, rfl, ownM_new rfl, RwS.nil, (Below.refl _ _).alloc (Nat.le_refl _) _⟩
  case round =>
    obtain ⟨j, vs, rfl, hj, rfl, Hown, Hrows, Hb⟩ := hrel
    have hs := Hb.out.size
    have H1r := Lib.hid (H1.out wr (Hv.out.block fun g _ hg => Hb.out.block g hg))
    by_cases hlt : j < 2
    · have hlt' : (j : Int) < 2 := by omega
      have Hstep := Lib.hid (Hst.out j hlt)
      go_wp2_with fail
      refine (H1r.out).mono ?_
      rintro e w2 ⟨rfl, hb2⟩
      have Hown2 := Lib.hid (row_below Hown.out hb2)
      have Hrows2 := Lib.hid ((Hrows.out.block fun k _ _ hk => hb2.block k hk).mono (Nat.le_refl _) hb2.size)
      have Hb2 := Lib.hid (Hb.out.trans (hb2.mono hs))
      have hs2 := Hb2.out.size
      have H2r := Lib.hid (H2.out j hlt w2 (Hv.out.block fun g _ hg => Hb2.out.block g hg))
      clear hb2 Hown Hrows Hb H1r
      generalize pix p (j : Int) = x at *
      go_wp2_with fail
      refine (H2r.out).mono ?_
      rintro e w3 ⟨rfl, hb3⟩
      have Hown3 := Lib.hid (row_below Hown2.out hb3)
      have Hrows3 := Lib.hid ((Hrows2.out.block fun k _ _ hk => hb3.block k hk).mono (Nat.le_refl _) hb3.size)
      have Hb3 := Lib.hid (Hb2.out.trans (hb3.mono hs2))
      have hs3 := Hb3.out.size
      clear hb3 Hown2 Hrows2 Hb2 H2r
      go_wp2_with fail
      refine (H3.out x _).mono ?_
      rintro e w4 ⟨u, rfl, hd, hb4⟩
      have Hown4 := Lib.hid (row_below Hown3.out hb4)
      have Hrows4 := Lib.hid (Hrows3.out.snoc hd.upto hs3 hb4.size fun k _ _ hk => hb4.block k hk)
      have Hb4 := Lib.hid (Hb3.out.trans (hb4.mono hs3))
      have hs4 := Hb4.out.size
      obtain ⟨q, qc, rfl, -, -⟩ := hd
      clear hb4 Hown3 Hrows3 Hb3
      generalize basisL 1 x = r at *
      go_wp2_with (first
        | (at_builtin; refine wpList_append_own _ rfl _ _ 24 rfl w.heap.size 31 i0 (.slice none 0 0) 1 24 Try.underlying24 hi hz0 hz1 hz2 rfl (by decide) _ _ _ rfl (Hown4.out.alloc _) ⟨w4.heap.size, 0, none⟩ 1 1 [.slice q r.length qc] rfl rfl (slice_new _ _ _) (by intro u hu; simp at hu; subst hu; rfl) ?d3 ?d4 ?d5 ?_))
      case d3 => unfold maxLen; omega
      case d4 => omega
      case d5 => first | omega | (simp; omega)
      intro v' w5 hown' hgrow _
      have HB5 := Lib.hid ((Hb4.out.alloc hs4 (.cells #[.slice q r.length qc] 31)).grown hgrow (by simp; omega) (fun q hq => by have := Hown4.out.lt q hq; omega))
      have Hrows5 := Lib.hid (((Hrows4.out.block fun k _ _ hk => Below.heap_alloc _ _ _ hk).grown (Hown4.out.alloc _) hgrow).upto)
      have Hown5 := Lib.hid hown'
      clear hown' hgrow
      rw [← Hstep.out] at Hrows5
      go_wp2_with fail
      go_roundg (2 - (j + 1))
      case measure => omega
      case rel => exact ⟨j + 1, _, rfl, by omega, by go_num, Hown5.out, Hrows5, HB5⟩
    · obtain rfl : j = 2 := by omega
      have hrows := Hrows.out
      rw [List.take_of_length_le (by rw [HLl.out]; exact Nat.le_refl _)] at hrows
      have hd := DSM.of_own (M := L) (by rw [HLl.out]; exact Hown.out) hrows (Nat.le_refl _)
      have Hd := Lib.hid hd
      clear hrows hd Hown Hrows
      go_wp2_with fail
      refine (H1r.out).mono ?_
      rintro e w2 ⟨rfl, hb2⟩
      have Hb2 := Lib.hid (Hb.out.trans (hb2.mono hs))
      have hs2 := Hb2.out.size
      have Hc := Lib.hid (H4.out _ _ _ w2 (Hd.out.below hb2))
      clear hb2 Hd H1r
      go_wp2_with fail
      refine (Hc.out).mono ?_
      rintro e w3 ⟨u, rfl, hdu, hb3⟩
      have Hdu := Lib.hid (hdu.mono (D := w.heap.size) (E := w3.heap.size) hs2 (Nat.le_refl _))
      have Hb3 := Lib.hid (Hb2.out.trans (hb3.mono hs2))
      clear hb3 hdu
      go_wp2_with fail
      go_ret
      exact ⟨_, rfl, Hdu.out, Hb3.out⟩
set_option maxRecDepth 100000 in
set_option maxHeartbeats 3200000 in
theorem spm2 (B : Nat) (v : Value) (p : List Int) (w : World) (hv : intE.Sl w B v p) (hep : Ei p) (hP : permB p = true) (hl : p.length = 2) :
    Calls Try.prog 35 #[v] w fun e w' => ∃ u, e = .returned u ∧ DSM w' w.heap.size w'.heap.size u (pmM p) ∧ Below w.heap.size w w' := by
  obtain ⟨i0, hi, hz0, hz1, hz2⟩ := info_parts infoDs
  have Hv := Lib.hid hv
  have H1 := Lib.hid (fun W (h : intE.Sl W B v p) => sisP B v p W h hep (by omega))
  rw [hP] at H1
  have H2 := Lib.hid (fun (j : Nat) (hj : j < 4) W (h : intE.Sl W B v p) => spix B v p (j : Int) W h hep (by omega) (by omega) (by omega))
  have H3 := Lib.hid (fun (x : Int) W => sbasis 2 x W)
  have Hst := Lib.hid (fun (j : Nat) (hj : j < 4) => show (pmL p).take (j + 1) = (pmL p).take j ++ [basisL 2 (pix p (j : Int))] by have h := pmL_step (p := p) (j := j) (by rw [hl]; omega); rw [hl] at h; exact h)
  have hL : (pmL p).length = 4 := by rw [pmL_len, hl]
  have HLl := Lib.hid hL
  have H4 := Lib.hid (fun D E c W (h : DSM W D E c (pmL p)) => scolumns D E c (pmL p) W h (pmL_rows hP) (by omega))
  rw [show pmM p = colsM (pmL p) from if_pos hP]
  generalize pmL p = L at *
  clear hep hP hL
  obtain ⟨a, cap, rfl, hcap, -⟩ := hv
  rw [hl] at hcap Hv H1 H2 ⊢
  clear hl
  go_enter Try.func35, Try.ntmps35
  go_wp2_with fail
  go_loopg [3, 4] 4 (fun n out i wr => ∃ (j : Nat) (vs : List Value), n = 4 - j ∧ j ≤ 4 ∧ i = .int .i64 j ∧ Hid (wr.ownsRow w.heap.size 31 1 out j vs) ∧ Hid (RwS wr w.heap.size wr.heap.size vs (L.take j)) ∧ Hid (Below w.heap.size w wr))
  case atStart => exact ⟨0, [], rfl, Nat.zero_le _, rfl, ownM_new rfl, RwS.nil, (Below.refl _ _).alloc (Nat.le_refl _) _⟩
  case round =>
    obtain ⟨j, vs, rfl, hj, rfl, Hown, Hrows, Hb⟩ := hrel
    have hs := Hb.out.size
    have H1r := Lib.hid (H1.out wr (Hv.out.block fun g _ hg => Hb.out.block g hg))
    by_cases hlt : j < 4
    · have hlt' : (j : Int) < 4 := by omega
      have Hstep := Lib.hid (Hst.out j hlt)
      go_wp2_with fail
      refine (H1r.out).mono ?_
      rintro e w2 ⟨rfl, hb2⟩
      have Hown2 := Lib.hid (row_below Hown.out hb2)
      have Hrows2 := Lib.hid ((Hrows.out.block fun k _ _ hk => hb2.block k hk).mono (Nat.le_refl _) hb2.size)
      have Hb2 := Lib.hid (Hb.out.trans (hb2.mono hs))
      have hs2 := Hb2.out.size
      have H2r := Lib.hid (H2.out j hlt w2 (Hv.out.block fun g _ hg => Hb2.out.block g hg))
      clear hb2 Hown Hrows Hb H1r
      generalize pix p (j : Int) = x at *
      go_wp2_with fail
      refine (H2r.out).mono ?_
      rintro e w3 ⟨rfl, hb3⟩
      have Hown3 := Lib.hid (row_below Hown2.out hb3)
      have Hrows3 := Lib.hid ((Hrows2.out.block fun k _ _ hk => hb3.block k hk).mono (Nat.le_refl _) hb3.size)
      have Hb3 := Lib.hid (Hb2.out.trans (hb3.mono hs2))
      have hs3 := Hb3.out.size
      clear hb3 Hown2 Hrows2 Hb2 H2r
      go_wp2_with fail
      refine (H3.out x _).mono ?_
      rintro e w4 ⟨u, rfl, hd, hb4⟩
      have Hown4 := Lib.hid (row_below Hown3.out hb4)
      have Hrows4 := Lib.hid (Hrows3.out.snoc hd.upto hs3 hb4.size fun k _ _ hk => hb4.block k hk)
      have Hb4 := Lib.hid (Hb3.out.trans (hb4.mono hs3))
      have hs4 := Hb4.out.size
      obtain ⟨q, qc, rfl, -, -⟩ := hd
      clear hb4 Hown3 Hrows3 Hb3
      generalize basisL 2 x = r at *
      go_wp2_with (first
        | (at_builtin; refine wpList_append_own _ rfl _ _ 24 rfl w.heap.size 31 i0 (.slice none 0 0) 1 24 Try.underlying24 hi hz0 hz1 hz2 rfl (by decide) _ _ _ rfl (Hown4.out.alloc _) ⟨w4.heap.size, 0, none⟩ 1 1 [.slice q r.length qc] rfl rfl (slice_new _ _ _) (by intro u hu; simp at hu; subst hu; rfl) ?d3 ?d4 ?d5 ?_))
      case d3 => unfold maxLen; omega
      case d4 => omega
      case d5 => first | omega | (simp; omega)
      intro v' w5 hown' hgrow _
      have HB5 := Lib.hid ((Hb4.out.alloc hs4 (.cells #[.slice q r.length qc] 31)).grown hgrow (by simp; omega) (fun q hq => by have := Hown4.out.lt q hq; omega))
      have Hrows5 := Lib.hid (((Hrows4.out.block fun k _ _ hk => Below.heap_alloc _ _ _ hk).grown (Hown4.out.alloc _) hgrow).upto)
      have Hown5 := Lib.hid hown'
      clear hown' hgrow
      rw [← Hstep.out] at Hrows5
      go_wp2_with fail
      go_roundg (4 - (j + 1))
      case measure => omega
      case rel => exact ⟨j + 1, _, rfl, by omega, by go_num, Hown5.out, Hrows5, HB5⟩
    · obtain rfl : j = 4 := by omega
      have hrows := Hrows.out
      rw [List.take_of_length_le (by rw [HLl.out]; exact Nat.le_refl _)] at hrows
      have hd := DSM.of_own (M := L) (by rw [HLl.out]; exact Hown.out) hrows (Nat.le_refl _)
      have Hd := Lib.hid hd
      clear hrows hd Hown Hrows
      go_wp2_with fail
      refine (H1r.out).mono ?_
      rintro e w2 ⟨rfl, hb2⟩
      have Hb2 := Lib.hid (Hb.out.trans (hb2.mono hs))
      have hs2 := Hb2.out.size
      have Hc := Lib.hid (H4.out _ _ _ w2 (Hd.out.below hb2))
      clear hb2 Hd H1r
      go_wp2_with fail
      refine (Hc.out).mono ?_
      rintro e w3 ⟨u, rfl, hdu, hb3⟩
      have Hdu := Lib.hid (hdu.mono (D := w.heap.size) (E := w3.heap.size) hs2 (Nat.le_refl _))
      have Hb3 := Lib.hid (Hb2.out.trans (hb3.mono hs2))
      clear hb3 hdu
      go_wp2_with fail
      go_ret
      exact ⟨_, rfl, Hdu.out, Hb3.out⟩
set_option maxRecDepth 100000 in
set_option maxHeartbeats 3200000 in
theorem spm3 (B : Nat) (v : Value) (p : List Int) (w : World) (hv : intE.Sl w B v p) (hep : Ei p) (hP : permB p = true) (hl : p.length = 3) :
    Calls Try.prog 35 #[v] w fun e w' => ∃ u, e = .returned u ∧ DSM w' w.heap.size w'.heap.size u (pmM p) ∧ Below w.heap.size w w' := by
  obtain ⟨i0, hi, hz0, hz1, hz2⟩ := info_parts infoDs
  have Hv := Lib.hid hv
  have H1 := Lib.hid (fun W (h : intE.Sl W B v p) => sisP B v p W h hep (by omega))
  rw [hP] at H1
  have H2 := Lib.hid (fun (j : Nat) (hj : j < 8) W (h : intE.Sl W B v p) => spix B v p (j : Int) W h hep (by omega) (by omega) (by omega))
  have H3 := Lib.hid (fun (x : Int) W => sbasis 3 x W)
  have Hst := Lib.hid (fun (j : Nat) (hj : j < 8) => show (pmL p).take (j + 1) = (pmL p).take j ++ [basisL 3 (pix p (j : Int))] by have h := pmL_step (p := p) (j := j) (by rw [hl]; omega); rw [hl] at h; exact h)
  have hL : (pmL p).length = 8 := by rw [pmL_len, hl]
  have HLl := Lib.hid hL
  have H4 := Lib.hid (fun D E c W (h : DSM W D E c (pmL p)) => scolumns D E c (pmL p) W h (pmL_rows hP) (by omega))
  rw [show pmM p = colsM (pmL p) from if_pos hP]
  generalize pmL p = L at *
  clear hep hP hL
  obtain ⟨a, cap, rfl, hcap, -⟩ := hv
  rw [hl] at hcap Hv H1 H2 ⊢
  clear hl
  go_enter Try.func35, Try.ntmps35
  go_wp2_with fail
  go_loopg [3, 4] 8 (fun n out i wr => ∃ (j : Nat) (vs : List Value), n = 8 - j ∧ j ≤ 8 ∧ i = .int .i64 j ∧ Hid (wr.ownsRow w.heap.size 31 1 out j vs) ∧ Hid (RwS wr w.heap.size wr.heap.size vs (L.take j)) ∧ Hid (Below w.heap.size w wr))
  case atStart => exact ⟨0, [], rfl, Nat.zero_le _, rfl, ownM_new rfl, RwS.nil, (Below.refl _ _).alloc (Nat.le_refl _) _⟩
  case round =>
    obtain ⟨j, vs, rfl, hj, rfl, Hown, Hrows, Hb⟩ := hrel
    have hs := Hb.out.size
    have H1r := Lib.hid (H1.out wr (Hv.out.block fun g _ hg => Hb.out.block g hg))
    by_cases hlt : j < 8
    · have hlt' : (j : Int) < 8 := by omega
      have Hstep := Lib.hid (Hst.out j hlt)
      go_wp2_with fail
      refine (H1r.out).mono ?_
      rintro e w2 ⟨rfl, hb2⟩
      have Hown2 := Lib.hid (row_below Hown.out hb2)
      have Hrows2 := Lib.hid ((Hrows.out.block fun k _ _ hk => hb2.block k hk).mono (Nat.le_refl _) hb2.size)
      have Hb2 := Lib.hid (Hb.out.trans (hb2.mono hs))
      have hs2 := Hb2.out.size
      have H2r := Lib.hid (H2.out j hlt w2 (Hv.out.block fun g _ hg => Hb2.out.block g hg))
      clear hb2 Hown Hrows Hb H1r
      generalize pix p (j : Int) = x at *
      go_wp2_with fail
      refine (H2r.out).mono ?_
      rintro e w3 ⟨rfl, hb3⟩
      have Hown3 := Lib.hid (row_below Hown2.out hb3)
      have Hrows3 := Lib.hid ((Hrows2.out.block fun k _ _ hk => hb3.block k hk).mono (Nat.le_refl _) hb3.size)
      have Hb3 := Lib.hid (Hb2.out.trans (hb3.mono hs2))
      have hs3 := Hb3.out.size
      clear hb3 Hown2 Hrows2 Hb2 H2r
      go_wp2_with fail
      refine (H3.out x _).mono ?_
      rintro e w4 ⟨u, rfl, hd, hb4⟩
      have Hown4 := Lib.hid (row_below Hown3.out hb4)
      have Hrows4 := Lib.hid (Hrows3.out.snoc hd.upto hs3 hb4.size fun k _ _ hk => hb4.block k hk)
      have Hb4 := Lib.hid (Hb3.out.trans (hb4.mono hs3))
      have hs4 := Hb4.out.size
      obtain ⟨q, qc, rfl, -, -⟩ := hd
      clear hb4 Hown3 Hrows3 Hb3
      generalize basisL 3 x = r at *
      go_wp2_with (first
        | (at_builtin; refine wpList_append_own _ rfl _ _ 24 rfl w.heap.size 31 i0 (.slice none 0 0) 1 24 Try.underlying24 hi hz0 hz1 hz2 rfl (by decide) _ _ _ rfl (Hown4.out.alloc _) ⟨w4.heap.size, 0, none⟩ 1 1 [.slice q r.length qc] rfl rfl (slice_new _ _ _) (by intro u hu; simp at hu; subst hu; rfl) ?d3 ?d4 ?d5 ?_))
      case d3 => unfold maxLen; omega
      case d4 => omega
      case d5 => first | omega | (simp; omega)
      intro v' w5 hown' hgrow _
      have HB5 := Lib.hid ((Hb4.out.alloc hs4 (.cells #[.slice q r.length qc] 31)).grown hgrow (by simp; omega) (fun q hq => by have := Hown4.out.lt q hq; omega))
      have Hrows5 := Lib.hid (((Hrows4.out.block fun k _ _ hk => Below.heap_alloc _ _ _ hk).grown (Hown4.out.alloc _) hgrow).upto)
      have Hown5 := Lib.hid hown'
      clear hown' hgrow
      rw [← Hstep.out] at Hrows5
      go_wp2_with fail
      go_roundg (8 - (j + 1))
      case measure => omega
      case rel => exact ⟨j + 1, _, rfl, by omega, by go_num, Hown5.out, Hrows5, HB5⟩
    · obtain rfl : j = 8 := by omega
      have hrows := Hrows.out
      rw [List.take_of_length_le (by rw [HLl.out]; exact Nat.le_refl _)] at hrows
      have hd := DSM.of_own (M := L) (by rw [HLl.out]; exact Hown.out) hrows (Nat.le_refl _)
      have Hd := Lib.hid hd
      clear hrows hd Hown Hrows
      go_wp2_with fail
      refine (H1r.out).mono ?_
      rintro e w2 ⟨rfl, hb2⟩
      have Hb2 := Lib.hid (Hb.out.trans (hb2.mono hs))
      have hs2 := Hb2.out.size
      have Hc := Lib.hid (H4.out _ _ _ w2 (Hd.out.below hb2))
      clear hb2 Hd H1r
      go_wp2_with fail
      refine (Hc.out).mono ?_
      rintro e w3 ⟨u, rfl, hdu, hb3⟩
      have Hdu := Lib.hid (hdu.mono (D := w.heap.size) (E := w3.heap.size) hs2 (Nat.le_refl _))
      have Hb3 := Lib.hid (Hb2.out.trans (hb3.mono hs2))
      clear hb3 hdu
      go_wp2_with fail
      go_ret
      exact ⟨_, rfl, Hdu.out, Hb3.out⟩
set_option maxRecDepth 100000 in
set_option maxHeartbeats 3200000 in
theorem spm4 (B : Nat) (v : Value) (p : List Int) (w : World) (hv : intE.Sl w B v p) (hep : Ei p) (hP : permB p = true) (hl : p.length = 4) :
    Calls Try.prog 35 #[v] w fun e w' => ∃ u, e = .returned u ∧ DSM w' w.heap.size w'.heap.size u (pmM p) ∧ Below w.heap.size w w' := by
  obtain ⟨i0, hi, hz0, hz1, hz2⟩ := info_parts infoDs
  have Hv := Lib.hid hv
  have H1 := Lib.hid (fun W (h : intE.Sl W B v p) => sisP B v p W h hep (by omega))
  rw [hP] at H1
  have H2 := Lib.hid (fun (j : Nat) (hj : j < 16) W (h : intE.Sl W B v p) => spix B v p (j : Int) W h hep (by omega) (by omega) (by omega))
  have H3 := Lib.hid (fun (x : Int) W => sbasis 4 x W)
  have Hst := Lib.hid (fun (j : Nat) (hj : j < 16) => show (pmL p).take (j + 1) = (pmL p).take j ++ [basisL 4 (pix p (j : Int))] by have h := pmL_step (p := p) (j := j) (by rw [hl]; omega); rw [hl] at h; exact h)
  have hL : (pmL p).length = 16 := by rw [pmL_len, hl]
  have HLl := Lib.hid hL
  have H4 := Lib.hid (fun D E c W (h : DSM W D E c (pmL p)) => scolumns D E c (pmL p) W h (pmL_rows hP) (by omega))
  rw [show pmM p = colsM (pmL p) from if_pos hP]
  generalize pmL p = L at *
  clear hep hP hL
  obtain ⟨a, cap, rfl, hcap, -⟩ := hv
  rw [hl] at hcap Hv H1 H2 ⊢
  clear hl
  go_enter Try.func35, Try.ntmps35
  go_wp2_with fail
  go_loopg [3, 4] 16 (fun n out i wr => ∃ (j : Nat) (vs : List Value), n = 16 - j ∧ j ≤ 16 ∧ i = .int .i64 j ∧ Hid (wr.ownsRow w.heap.size 31 1 out j vs) ∧ Hid (RwS wr w.heap.size wr.heap.size vs (L.take j)) ∧ Hid (Below w.heap.size w wr))
  case atStart => exact ⟨0, [], rfl, Nat.zero_le _, rfl, ownM_new rfl, RwS.nil, (Below.refl _ _).alloc (Nat.le_refl _) _⟩
  case round =>
    obtain ⟨j, vs, rfl, hj, rfl, Hown, Hrows, Hb⟩ := hrel
    have hs := Hb.out.size
    have H1r := Lib.hid (H1.out wr (Hv.out.block fun g _ hg => Hb.out.block g hg))
    by_cases hlt : j < 16
    · have hlt' : (j : Int) < 16 := by omega
      have Hstep := Lib.hid (Hst.out j hlt)
      go_wp2_with fail
      refine (H1r.out).mono ?_
      rintro e w2 ⟨rfl, hb2⟩
      have Hown2 := Lib.hid (row_below Hown.out hb2)
      have Hrows2 := Lib.hid ((Hrows.out.block fun k _ _ hk => hb2.block k hk).mono (Nat.le_refl _) hb2.size)
      have Hb2 := Lib.hid (Hb.out.trans (hb2.mono hs))
      have hs2 := Hb2.out.size
      have H2r := Lib.hid (H2.out j hlt w2 (Hv.out.block fun g _ hg => Hb2.out.block g hg))
      clear hb2 Hown Hrows Hb H1r
      generalize pix p (j : Int) = x at *
      go_wp2_with fail
      refine (H2r.out).mono ?_
      rintro e w3 ⟨rfl, hb3⟩
      have Hown3 := Lib.hid (row_below Hown2.out hb3)
      have Hrows3 := Lib.hid ((Hrows2.out.block fun k _ _ hk => hb3.block k hk).mono (Nat.le_refl _) hb3.size)
      have Hb3 := Lib.hid (Hb2.out.trans (hb3.mono hs2))
      have hs3 := Hb3.out.size
      clear hb3 Hown2 Hrows2 Hb2 H2r
      go_wp2_with fail
      refine (H3.out x _).mono ?_
      rintro e w4 ⟨u, rfl, hd, hb4⟩
      have Hown4 := Lib.hid (row_below Hown3.out hb4)
      have Hrows4 := Lib.hid (Hrows3.out.snoc hd.upto hs3 hb4.size fun k _ _ hk => hb4.block k hk)
      have Hb4 := Lib.hid (Hb3.out.trans (hb4.mono hs3))
      have hs4 := Hb4.out.size
      obtain ⟨q, qc, rfl, -, -⟩ := hd
      clear hb4 Hown3 Hrows3 Hb3
      generalize basisL 4 x = r at *
      go_wp2_with (first
        | (at_builtin; refine wpList_append_own _ rfl _ _ 24 rfl w.heap.size 31 i0 (.slice none 0 0) 1 24 Try.underlying24 hi hz0 hz1 hz2 rfl (by decide) _ _ _ rfl (Hown4.out.alloc _) ⟨w4.heap.size, 0, none⟩ 1 1 [.slice q r.length qc] rfl rfl (slice_new _ _ _) (by intro u hu; simp at hu; subst hu; rfl) ?d3 ?d4 ?d5 ?_))
      case d3 => unfold maxLen; omega
      case d4 => omega
      case d5 => first | omega | (simp; omega)
      intro v' w5 hown' hgrow _
      have HB5 := Lib.hid ((Hb4.out.alloc hs4 (.cells #[.slice q r.length qc] 31)).grown hgrow (by simp; omega) (fun q hq => by have := Hown4.out.lt q hq; omega))
      have Hrows5 := Lib.hid (((Hrows4.out.block fun k _ _ hk => Below.heap_alloc _ _ _ hk).grown (Hown4.out.alloc _) hgrow).upto)
      have Hown5 := Lib.hid hown'
      clear hown' hgrow
      rw [← Hstep.out] at Hrows5
      go_wp2_with fail
      go_roundg (16 - (j + 1))
      case measure => omega
      case rel => exact ⟨j + 1, _, rfl, by omega, by go_num, Hown5.out, Hrows5, HB5⟩
    · obtain rfl : j = 16 := by omega
      have hrows := Hrows.out
      rw [List.take_of_length_le (by rw [HLl.out]; exact Nat.le_refl _)] at hrows
      have hd := DSM.of_own (M := L) (by rw [HLl.out]; exact Hown.out) hrows (Nat.le_refl _)
      have Hd := Lib.hid hd
      clear hrows hd Hown Hrows
      go_wp2_with fail
      refine (H1r.out).mono ?_
      rintro e w2 ⟨rfl, hb2⟩
      have Hb2 := Lib.hid (Hb.out.trans (hb2.mono hs))
      have hs2 := Hb2.out.size
      have Hc := Lib.hid (H4.out _ _ _ w2 (Hd.out.below hb2))
      clear hb2 Hd H1r
      go_wp2_with fail
      refine (Hc.out).mono ?_
      rintro e w3 ⟨u, rfl, hdu, hb3⟩
      have Hdu := Lib.hid (hdu.mono (D := w.heap.size) (E := w3.heap.size) hs2 (Nat.le_refl _))
      have Hb3 := Lib.hid (Hb2.out.trans (hb3.mono hs2))
      clear hb3 hdu
      go_wp2_with fail
      go_ret
      exact ⟨_, rfl, Hdu.out, Hb3.out⟩
set_option maxRecDepth 100000 in
set_option maxHeartbeats 1600000 in
theorem spmM (B : Nat) (v : Value) (p : List Int) (w : World) (hv : intE.Sl w B v p) (hep : Ei p) (hm : p.length ≤ 1048576) :
    Calls Try.prog 35 #[v] w fun e w' => ∃ u, e = .returned u ∧ DSM w' w.heap.size w'.heap.size u (pmM p) ∧ Below w.heap.size w w' := by
  cases hP : permB p with
  | true =>
    have h4 := (permB_iff.1 hP).2
    rcases (show p.length = 1 ∨ p.length = 2 ∨ p.length = 3 ∨ p.length = 4 by omega) with e | e | e | e
    · exact spm1 B v p w hv hep hP e
    · exact spm2 B v p w hv hep hP e
    · exact spm3 B v p w hv hep hP e
    · exact spm4 B v p w hv hep hP e
  | false =>
    have Hv := Lib.hid hv
    have H1 := Lib.hid (fun W (h : intE.Sl W B v p) => sisP B v p W h hep hm)
    rw [hP] at H1
    rw [show pmM p = [] from if_neg (by rw [hP]; decide)]
    have H4 := Lib.hid (fun D E c W (h : DSM W D E c []) => scolumns D E c [] W h (fun r hr => absurd hr List.not_mem_nil) (Nat.zero_le _))
    clear hep hP
    obtain ⟨a, cap, rfl, hcap, -⟩ := hv
    go_enter Try.func35, Try.ntmps35
    go_wp2_with fail
    go_loopg [3, 4] 0 (fun n out i wr => n = 0 ∧ i = .int .i64 0 ∧ out = .slice (some ⟨w.heap.size, 0, none⟩) 0 0 ∧ Hid (Below w.heap.size w wr))
    case atStart => exact ⟨rfl, rfl, rfl, (Below.refl _ _).alloc (Nat.le_refl _) _⟩
    case round =>
      obtain ⟨rfl, rfl, rfl, Hb⟩ := hrel
      have hs := Hb.out.size
      have H1r := Lib.hid (H1.out wr (Hv.out.block fun g _ hg => Hb.out.block g hg))
      go_wp2_with fail
      refine (H1r.out).mono ?_
      rintro e w2 ⟨rfl, hb2⟩
      have Hb2 := Lib.hid (Hb.out.trans (hb2.mono hs))
      have hs2 := Hb2.out.size
      have Hc := Lib.hid (H4.out 0 0 (.slice (some ⟨w.heap.size, 0, none⟩) 0 0) w2 DSM.nil)
      clear hb2 H1r
      go_wp2_with fail
      refine (Hc.out).mono ?_
      rintro e w3 ⟨u, rfl, hdu, hb3⟩
      have Hdu := Lib.hid (hdu.mono (D := w.heap.size) (E := w3.heap.size) hs2 (Nat.le_refl _))
      have Hb3 := Lib.hid (Hb2.out.trans (hb3.mono hs2))
      clear hb3 hdu
      go_wp2_with fail
      go_ret
      exact ⟨_, rfl, Hdu.out, Hb3.out⟩
end Go.Proofs.Ytkcpemkahkkcmaa
