/- BaseB17: several of our texts in one: ApKe ApK CiKv CpR CpU CpV. -/
import Derived.Test.YtmpafidkpangeaaGreatApKd
import Derived.Test.YtmpafidkpangeaaGreatBaseB07
import Derived.Test.YtmpafidkpangeaaGreatBaseB15
import Derived.Test.YtmpafidkpangeaaGreatBaseB13
import Derived.Lib.SliceRun
import Derived.Test.YtmpafidkpangeaaGreatBaseB16
import Derived.Test.YtmpafidkpangeaaGreatBaseB12
import Derived.Test.YtmpafidkpangeaaGreatBaseB22
import Derived.Test.YtmpafidkpangeaaGreatBaseB23
import Derived.Test.YtmpafidkpangeaaGreatBaseB21
namespace Go.Proofs.YtmpafidkpangeaaGreat
open Go.RowKit
attribute [local irreducible] World.cell?
set_option maxRecDepth 100000 in
set_option maxHeartbeats 1600000 in
theorem iclone (B : Nat) (v : Value) (l : List Dw) (w : World) (hv : DSl w B v l) (h0 : 0 < l.length) (hm : l.length ≤ 1048576) :
    Calls Tryz.prog 149 #[v] w fun e w' => ∃ r, e = .returned r ∧ DSl w' w.heap.size r l ∧ Below w.heap.size w w' := by
  obtain ⟨i0, hi, hz0, hz1, hz2⟩ := info_parts infoDw
  have qT : ∀ (w : World) (a : Option Addr) (n c n' c' : Nat), (binOp .eql 36 (.slice a n c) (.slice none n' c')).run Tryz.prog w = .ok (.bool a.isNone) w := fun w a n c n' c' => Lib.run_eql_slice_nil w _ _ a n c n' c' Tryz.underlying36
  obtain ⟨a, cap, rfl, hcap, hr⟩ := hv
  obtain ⟨g, rfl, hg, hrow⟩ := hr h0
  have Hsrc := Lib.hid (row_src (hrow.alloc (.cells #[] 84)))
  have Hown := Lib.hid (own_new (w := w) (n := w.heap.size) (t := 84) rfl)
  have Hp := Lib.hid (flat_plain l)
  have Hl := Lib.hid (flat_len l)
  clear hr hrow
  go_enter Tryz.func149, Tryz.ntmps149
  go_wp2_with (first
    | (at_builtin; refine wpList_append_own _ rfl _ _ 36 rfl w.heap.size 84 i0 (.agg #[.int .i64 0, .int .i64 0, .int .i64 0, .int .i64 0, .int .i64 0]) 5 40 Tryz.underlying36 hi hz0 hz1 hz2 rfl (by decide) _ _ _ rfl Hown.out ⟨g, 0, none⟩ l.length cap (flat l) rfl Hl.out Hsrc.out Hp.out ?d3 ?d4 ?d5 ?_))
  case d3 => unfold maxLen; omega
  case d4 => omega
  case d5 => first | omega | (simp; omega) | simp
  intro v' w4 hown' hgrow _
  have hown2 : w4.ownsRow w.heap.size 84 5 v' l.length (flat l) := by
    have h : w4.ownsRow w.heap.size 84 5 v' l.length ([] ++ flat l) := hown'
    rwa [List.nil_append] at h
  have Hs := Lib.hid (DSl.of_own hown2)
  have HB := Lib.hid (((Below.refl w.heap.size w).alloc (Nat.le_refl _) (.cells #[] 84)).grown hgrow (by simp) (fun q hq => by have := Hown.out.lt q hq; omega))
  clear hown' hown2 hgrow
  go_wp2_with fail
  go_ret
  exact ⟨_, rfl, Hs.out, HB.out⟩
set_option maxRecDepth 100000 in
set_option maxHeartbeats 3200000 in
theorem iapGs_yes (B : Nat) (a0 : Option Addr) (capg : Nat) (v : Value) (L : List Gt) (l : List Dw) (w : World) (hg : GsIn w w.heap.size a0 L) (hv : DSl w B v l) (hst : stB l = true) (hL : L.length ≤ 1048576) :
    Calls Tryz.prog 96 #[.slice a0 L.length capg, v] w fun e w' => (∃ r, e = .returned (.tuple #[r, .bool (agsB L l)]) ∧ DSl w' w.heap.size r (agsV L l)) ∧ Below w.heap.size w w' := by
  have hlen := stB_len hst
  have h2 := stB_iff.1 hst
  have hpos : 0 < l.length := by have := qc_len h2.2; omega
  have H1 := Lib.hid (ivalidSt B v l w hv (fun x hx => ok_eb (h2.1 x hx)) (by omega))
  have H2 := Lib.hid (fun W (h : DSl W B v l) => iclone B v l W h hpos (by omega))
  have H3 := Lib.hid (fun (g : Gt) (D : Nat) (u : Value) (o : List Dw) W (h : DSl W D u o) (he : ∀ x ∈ o, x.ok) (hm : o.length ≤ 1048576) => iapG D g u o W h (fun x hx => ok_eb (he x hx)) hm)
  have Hok := Lib.hid h2.1
  have Hv := Lib.hid hv
  rw [hst] at H1
  have HO := Lib.hid (show agsO L l = agsF L l by unfold agsO; rw [hst]; rfl)
  have HV := Lib.hid (show agsV L l = (agsO L l).getD [] from rfl)
  have HT := Lib.hid (show agsB L l = (agsO L l).isSome from rfl)
  generalize agsV L l = V at *
  generalize agsB L l = T at *
  generalize agsO L l = O at *
  have Hg := Lib.hid hg
  clear hst h2 hpos hg
  obtain ⟨av, capv, rfl, -, -⟩ := hv
  go_enter Tryz.func96, Tryz.ntmps96
  go_wp2_with fail
  refine (H1.out).mono ?_
  rintro e w1 ⟨rfl, hb1⟩
  have Hb1 := Lib.hid hb1
  have Hv1 := Lib.hid (Hv.out.below hb1)
  have hs1 := hb1.size
  clear hb1
  go_wp2_with fail
  refine (H2.out _ Hv1.out).mono ?_
  rintro e w2 ⟨u, rfl, hd2, hb2⟩
  have Hb2 := Lib.hid (below_nx Hb1.out hb2)
  have Hd2 := Lib.hid (hd2.mono hs1)
  have Hst := Lib.hid (show agsF (L.drop 0) l = O from HO.out.symm)
  clear hd2 hb2 H1 H2 HO
  go_wp2_with fail
  go_loopg [6, 18] L.length (fun m ov i wr => ∃ (j : Nat) (o : List Dw) (u' : Value), m = L.length - j ∧ j ≤ L.length ∧ i = .int .i64 j ∧ u' = ov ∧ o.length ≤ 16 ∧ Hid (∀ x ∈ o, x.ok) ∧ Hid (agsF (L.drop j) o = O) ∧ Hid (DSl wr w.heap.size u' o) ∧ Hid (Below w.heap.size w wr))
  case atStart => exact ⟨0, l, u, rfl, Nat.zero_le _, rfl, rfl, hlen, Hok, Hst, Hd2, Hb2⟩
  case round =>
    obtain ⟨j, o, u', rfl, hj, rfl, rfl, ho, Hok2, Hap, Hd, Hb⟩ := hrel
    have hsw := Hb.out.size
    by_cases hlt : j < L.length
    · obtain ⟨g, hx⟩ : ∃ g, L[j]? = some g := ⟨L[j], List.getElem?_eq_getElem hlt⟩
      obtain ⟨gg, off, rfl, hgB, hcl⟩ := (Hg.out.below Hb.out).2 (by omega)
      obtain ⟨c0, c1, c2, c3⟩ := hcl j g hx
      have hgl := Nat.lt_of_lt_of_le hgB hsw
      have HX := Lib.hid (heap_alloc_new wr (.cells #[.int .i64 g.k, .int .i64 g.a, .int .i64 g.b, .int .i64 g.c] 35))
      have Hb' := Lib.hid (show Below w.heap.size w (wr.alloc (.cells #[.int .i64 g.k, .int .i64 g.a, .int .i64 g.b, .int .i64 g.c] 35)) from Hb.out.alloc hsw _)
      have Hd' := Lib.hid (Hd.out.below ((Below.refl _ _).alloc (Nat.le_refl _) (.cells #[.int .i64 g.k, .int .i64 g.a, .int .i64 g.b, .int .i64 g.c] 35)))
      have hs' : w.heap.size ≤ (wr.alloc (.cells #[.int .i64 g.k, .int .i64 g.a, .int .i64 g.b, .int .i64 g.c] 35)).heap.size := by simp; omega
      have Hstep := Lib.hid (ags_step (o := o) hx)
      have hvl := agV_len g o
      have Hok3 := Lib.hid (agV_oks g o)
      have Hc := Lib.hid (H3.out g _ _ o (wr.alloc (.cells #[.int .i64 g.k, .int .i64 g.a, .int .i64 g.b, .int .i64 g.c] 35)) Hd'.out Hok2.out (by omega))
      have Hs' := Lib.hid hs'
      clear hx hcl hgB hs'
      generalize agV g o = o2 at *
      generalize agB g o = t at *
      go_wp2_with fail
      refine (Hc.out).mono ?_
      rintro e w4 ⟨⟨r, rfl, hd4⟩, hb4⟩
      have Hd4 := Lib.hid (hd4.mono Hs'.out)
      have Hb4 := Lib.hid (below_up Hb'.out hb4 Hs'.out)
      have hs4 := Hb4.out.size
      clear hd4 hb4 c0 c1 c2 c3 Hc hgl
      have h := Hstep.out.symm.trans Hap.out
      cases t with
      | true =>
        have Hn := Lib.hid (show agsF (L.drop (j + 1)) o2 = O from h)
        clear h
        go_wp2_with fail
        go_roundg (L.length - (j + 1))
        case measure => omega
        case rel => exact ⟨j + 1, o2, r, rfl, by omega, by go_num, rfl, by omega, Hok3, Hn, Hd4, Hb4⟩
      | false =>
        have hO : O = none := h.symm
        subst hO
        obtain rfl : V = [] := HV.out
        obtain rfl : T = false := HT.out
        clear h
        go_wp2_with fail
        go_returns
        exact ⟨⟨_, rfl, DSl.nil⟩, by have := Hb4.out; go_grown⟩
    · obtain rfl : j = L.length := by omega
      have hO := Hap.out
      rw [List.drop_of_length_le (Nat.le_refl _)] at hO
      obtain rfl : V = o := HV.out.trans (by rw [← hO]; rfl)
      obtain rfl : T = true := HT.out.trans (by rw [← hO]; rfl)
      clear hO
      go_wp2_with fail
      go_returns
      exact ⟨⟨_, rfl, Hd.out⟩, Hb.out⟩
set_option maxRecDepth 100000 in
set_option maxHeartbeats 1600000 in
theorem iapGs0 (B : Nat) (a0 : Option Addr) (cap : Nat) (v : Value) (L : List Gt) (l : List Dw) (w : World) (hg : GsIn w w.heap.size a0 L) (hv : DSl w B v l) (he : Eb l) (hm : l.length ≤ 1048576) (hn : L.length ≤ 1048576) : Calls Tryz.prog 96 #[.slice a0 L.length cap, v] w fun e w' => (∃ r, e = .returned (.tuple #[r, .bool (agsB L l)]) ∧ DSl w' w.heap.size r (agsV L l)) ∧ Below w.heap.size w w' := by
  cases hst : stB l with
  | true => exact iapGs_yes B a0 cap v L l w hg hv hst hn
  | false =>
    have h0 : agsO L l = none := by unfold agsO; rw [hst]; rfl
    rw [show agsB L l = false by unfold agsB; rw [h0]; rfl, show agsV L l = [] by unfold agsV; rw [h0]; rfl]
    have H1 := Lib.hid (ivalidSt B v l w hv he hm)
    rw [hst] at H1
    clear hst h0 hg he
    obtain ⟨av, capv, rfl, -, -⟩ := hv
    go_enter Tryz.func96, Tryz.ntmps96
    go_wp2_with fail
    refine (H1.out).mono ?_
    rintro e w1 ⟨rfl, hb1⟩
    have Hb1 := Lib.hid hb1
    have hs1 := hb1.size
    clear hb1
    go_wp2_with fail
    go_returns
    exact ⟨⟨_, rfl, DSl.nil⟩, by have := Hb1.out; go_grown⟩
theorem iapGs (B C : Nat) (vg v : Value) (L : List Gt) (l : List Dw) (w : World) (hg : gtE.Sl w C vg L) (hv : DSl w B v l) (he : Eb l) (hm : l.length ≤ 1048576) (hn : L.length ≤ 1048576) : Calls Tryz.prog 96 #[vg, v] w fun e w' => (∃ r, e = .returned (.tuple #[r, .bool (agsB L l)]) ∧ DSl w' w.heap.size r (agsV L l)) ∧ Below w.heap.size w w' := by
  obtain ⟨a, cap, rfl, h⟩ := GsIn.of_sl hg hn
  exact iapGs0 B a cap v L l w h hv he hm hn
end Go.Proofs.YtmpafidkpangeaaGreat
namespace Go.Proofs.YtmpafidkpangeaaGreat
open Go.RowKit
theorem col_id1 : ∀ k : Fin 2, col (idM 1) k.val = basisL 1 ((k.val : Nat) : Int) := by decide +kernel
theorem col_id2 : ∀ k : Fin 4, col (idM 2) k.val = basisL 2 ((k.val : Nat) : Int) := by decide +kernel
theorem col_id3 : ∀ k : Fin 8, col (idM 3) k.val = basisL 3 ((k.val : Nat) : Int) := by decide +kernel
theorem col_id4 : ∀ k : Fin 16, col (idM 4) k.val = basisL 4 ((k.val : Nat) : Int) := by decide +kernel
theorem col_id {n : Int} (h : 1 ≤ n ∧ n ≤ 4) {k : Nat} (hk : k < 2 ^ n.toNat) : col (idM n) k = basisL n (k : Int) := by
  rcases (show n = 1 ∨ n = 2 ∨ n = 3 ∨ n = 4 by omega) with rfl | rfl | rfl | rfl
  · exact col_id1 ⟨k, hk⟩
  · exact col_id2 ⟨k, hk⟩
  · exact col_id3 ⟨k, hk⟩
  · exact col_id4 ⟨k, hk⟩
theorem idM_rows {n : Int} (h : 1 ≤ n ∧ n ≤ 4) : ∀ r ∈ idM n, (idM n).length ≤ r.length := by
  rcases (show n = 1 ∨ n = 2 ∨ n = 3 ∨ n = 4 by omega) with rfl | rfl | rfl | rfl <;> decide +kernel
theorem basis_ok (n : Int) (h : 1 ≤ n ∧ n ≤ 4) : ∀ k : Nat, k < 2 ^ n.toNat → (∀ x ∈ basisL n (k : Int), x.ok) ∧ (basisL n (k : Int)).length ≤ 16 := by
  have h1 : ∀ k : Fin 2, (∀ x ∈ basisL 1 ((k.val : Nat) : Int), x.ok) ∧ (basisL 1 ((k.val : Nat) : Int)).length ≤ 16 := by decide +kernel
  have h2 : ∀ k : Fin 4, (∀ x ∈ basisL 2 ((k.val : Nat) : Int), x.ok) ∧ (basisL 2 ((k.val : Nat) : Int)).length ≤ 16 := by decide +kernel
  have h3 : ∀ k : Fin 8, (∀ x ∈ basisL 3 ((k.val : Nat) : Int), x.ok) ∧ (basisL 3 ((k.val : Nat) : Int)).length ≤ 16 := by decide +kernel
  have h4 : ∀ k : Fin 16, (∀ x ∈ basisL 4 ((k.val : Nat) : Int), x.ok) ∧ (basisL 4 ((k.val : Nat) : Int)).length ≤ 16 := by decide +kernel
  intro k hk
  rcases (show n = 1 ∨ n = 2 ∨ n = 3 ∨ n = 4 by omega) with rfl | rfl | rfl | rfl
  · exact h1 ⟨k, hk⟩
  · exact h2 ⟨k, hk⟩
  · exact h3 ⟨k, hk⟩
  · exact h4 ⟨k, hk⟩
attribute [local irreducible] World.cell?
set_option maxRecDepth 100000 in
set_option maxHeartbeats 1600000 in
theorem imatL1 (D C b : Nat) (vg c : Value) (L : List Gt) (l : List Dw) (w : World) (hx : w.heap[b]? = some (.cells #[vg] 24 (0, 0))) (hg : gtE.Sl w C vg L) (hc : DSl w D c l) (he : Eb l) (hm : l.length ≤ 1048576) (hn : L.length ≤ 1048576) :
    Calls Tryz.prog 95 #[c, .pointer (some ⟨b, 0, none⟩)] w fun e w' => (∃ r, e = .returned (.tuple #[r, .bool (agsB L l)]) ∧ DSl w' w.heap.size r (agsV L l)) ∧ Below w.heap.size w w' := by
  have H := Lib.hid (iapGs D C vg c L l w hg hc he hm hn)
  have c0 := cell_at hx 0 _ rfl
  have hgl := lt_of_block hx
  clear hx he hm hn
  generalize agsV L l = SL at *
  generalize agsB L l = SB at *
  obtain ⟨a', cap', rfl, -, -⟩ := hc
  obtain ⟨a2, cap2, rfl, -, -⟩ := hg
  go_enter Tryz.func95, Tryz.ntmps95
  go_wp2_with fail
  refine (H.out).mono ?_
  rintro e w1 ⟨⟨q, rfl, hd⟩, hb1⟩
  have Hd := Lib.hid hd
  have Hb1 := Lib.hid hb1
  clear hd hb1
  go_wp2_with fail
  go_returns
  exact ⟨⟨_, rfl, Hd.out⟩, Hb1.out⟩
set_option maxRecDepth 100000 in
set_option maxHeartbeats 3200000 in
theorem imatL (C : Nat) (vg : Value) (L : List Gt) (m : Nat) (w : World) (hg : gtE.Sl w C vg L) (h1 : 1 ≤ m) (h4 : m ≤ 4) (hL : L.length ≤ 1048576) : Calls Tryz.prog 39 #[vg, .int .i64 (m : Int)] w fun e w' => (∃ r, e = .returned (.tuple #[r, .bool (cirB L m)]) ∧ DSM w' w.heap.size w'.heap.size r (cirM L m)) ∧ Below w.heap.size w w' := by
  have hn : 1 ≤ (m : Int) ∧ (m : Int) ≤ 4 := by omega
  have HX := Lib.hid (heap_alloc_new w (.cells #[vg] 24))
  have Hb0 := Lib.hid (show Below w.heap.size w (w.alloc (.cells #[vg] 24)) by go_grown)
  have Hg := Lib.hid (hg.below Hb0.out)
  have c0 := cell_at HX.out 0 _ rfl
  have H2 := Lib.hid (fun W => iident (m : Int) W (by omega) (by omega))
  have hl : (idM (m : Int)).length = 2 ^ m := by rw [idM_len hn, Int.toNat_natCast]
  have eF : ∀ args w, (callFunc 95 args).run Tryz.prog w = .ok (.enter 95 args) w := Tryz.call95
  have h16 : (idM (m : Int)).length ≤ 16 := (idM_amps (m : Int)).1
  have H3 := Lib.hid (fun R S u W (h : DSM W R S u (idM (m : Int))) (hx : W.heap[w.heap.size]? = some (.cells #[vg] 24 (0, 0))) (hg : gtE.Sl W C vg L) =>
    imapC 95 #[.pointer (some ⟨w.heap.size, 0, none⟩)] eF R S u (idM (m : Int)) (fun k => agsB L (basisL (m : Int) (k : Int))) (fun k => agsV L (basisL (m : Int) (k : Int))) W h (idM_rows hn) (by omega)
      (fun k hk ht => by rw [hl] at hk ⊢; rw [agsV_len ht, basis_len h1 h4 hk])
      (fun k hk D c W' hW hc => by
        rw [hl] at hk
        rw [col_id hn (by rw [Int.toNat_natCast]; exact hk)] at hc
        have hk' : k < 2 ^ (m : Int).toNat := by rw [Int.toNat_natCast]; exact hk
        exact imatL1 D C w.heap.size vg c L (basisL (m : Int) (k : Int)) W' ((hW.block _ (lt_of_block hx)).trans hx) (hg.below hW) hc (fun x hx => ok_eb ((basis_ok (m : Int) hn k hk').1 x hx)) (by have := (basis_ok (m : Int) hn k hk').2; omega) hL))
  have hM : (if (List.range (idM (m : Int)).length).all (fun k => agsB L (basisL (m : Int) (k : Int))) = true then colsM (mapX (idM (m : Int)).length fun k => agsV L (basisL (m : Int) (k : Int))) else []) = cirM L m := by
    rw [hl]; rfl
  have hB : ((List.range (idM (m : Int)).length).all (fun k => agsB L (basisL (m : Int) (k : Int)))) = cirB L m := by
    rw [hl]; rfl
  rw [hM, hB] at H3
  clear hM hB hl h16 hn
  generalize cirM L m = SL at *
  generalize cirB L m = SB at *
  obtain ⟨a2, cap2, rfl, -, -⟩ := hg
  go_enter Tryz.func39, Tryz.ntmps39
  go_wp2_with fail
  refine (H2.out _).mono ?_
  rintro e w2 ⟨u, rfl, hd2, hb2⟩
  have H4 := Lib.hid (H3.out _ _ _ _ hd2 (below_blk hb2 (lt_of_block HX.out) HX.out) (Hg.out.below hb2))
  have Hb2 := Lib.hid (below_nx Hb0.out hb2)
  have hs2 := Hb2.out.size
  clear hb2 hd2 H3
  go_wp2_with fail
  refine (H4.out).mono ?_
  rintro e w3 ⟨⟨q, rfl, hd⟩, hb3⟩
  have Hd := Lib.hid (hd.mono (D := w.heap.size) (E := w3.heap.size) hs2 (Nat.le_refl _))
  have Hb3 := Lib.hid (below_nx Hb2.out hb3)
  clear hd hb3 H4
  go_wp2_with fail
  go_returns
  exact ⟨⟨_, rfl, Hd.out⟩, Hb3.out⟩
end Go.Proofs.YtmpafidkpangeaaGreat
namespace Go.Proofs.YtmpafidkpangeaaGreat
open Go.RowKit
attribute [local irreducible] World.cell?
set_option maxRecDepth 100000 in
set_option maxHeartbeats 3200000 in
theorem ivalidC (B : Nat) (n : Int) (v : Value) (l : List Gt) (w : World) (hv : gtE.Sl w B v l) (hm : l.length ≤ 1048576) (n0 : -9223372036854775808 ≤ n) (n1 : n ≤ 9223372036854775807) :
    Calls Tryz.prog 38 #[.agg #[.int .i64 n, v]] w fun e w' => e = .returned (.bool (ciB n l)) ∧ Below w.heap.size w w' := by
  obtain ⟨a, cap, rfl, hcap, hr⟩ := hv
  have Hr := Lib.hid hr
  clear hr
  have HC0 := Lib.hid (heap_alloc_new w (.cells #[.int .i64 n, .slice a l.length cap] 26))
  have Hb0 := Lib.hid (show Below w.heap.size w (w.alloc (.cells #[.int .i64 n, .slice a l.length cap] 26)) by go_grown)
  obtain ⟨p0, p1⟩ := blk_cells2 HC0.out
  have hCl := lt_of_block HC0.out
  obtain ⟨T, hT⟩ : ∃ T, T = ciB n l := ⟨_, rfl⟩
  rw [← hT]
  have HT := Lib.hid (hT.trans (show ciB n l = (l.all (fun g => gtB g n) && (decide (1 ≤ n ∧ n ≤ 4) && decide (l.length ≤ 60))) from rfl))
  clear hT
  by_cases hn : 1 ≤ n ∧ n ≤ 4
  · have Hq := Lib.hid (fun w => iisq_yes n w hn)
    have HG := Lib.hid (fun x W => ivalidG x n W n0 n1)
    have HT1 := Lib.hid (HT.out.trans (by rw [decide_eq_true hn, Bool.true_and]))
    clear hn HT
    by_cases h60 : l.length ≤ 60
    · have HT2 := Lib.hid (HT1.out.trans (by rw [decide_eq_true h60, Bool.and_true]))
      clear HT1
      go_enter Tryz.func38, Tryz.ntmps38
      go_wp2_with (first | (go_at_call 93; refine (Hq.out _).mono ?_; rintro e wR ⟨rfl, rfl⟩))
      go_loopg [18] l.length (fun m i wr => ∃ j : Nat, m = l.length - j ∧ j ≤ l.length ∧ i = .int .i64 j ∧ Hid ((l.take j).all (fun g => gtB g n) = true) ∧ Hid (wr.heap[w.heap.size]? = some (.cells #[.int .i64 n, .slice a l.length cap] 26 (0, 0))) ∧ Hid (Below w.heap.size w wr))
      case atStart => exact ⟨0, rfl, Nat.zero_le _, rfl, rfl, HC0, Hb0⟩
      case round =>
        obtain ⟨j, rfl, hj, rfl, Hyes, HC, Hb⟩ := hrel
        clear p0 p1 hCl
        obtain ⟨p0, p1⟩ := blk_cells2 HC.out
        have hCl := lt_of_block HC.out
        have hsw := Hb.out.size
        by_cases hlt : j < l.length
        · obtain ⟨g, rfl, _, hrow⟩ := Hr.out (by omega)
          obtain ⟨x, hx⟩ : ∃ x, l[j]? = some x := ⟨l[j], List.getElem?_eq_getElem hlt⟩
          have r1 := hrow.below Hb.out hrow.lt
          obtain ⟨c0, c1, c2, c3⟩ := GRow.cells r1 hx
          have hgl := r1.lt
          have HX := Lib.hid (heap_alloc_new wr (.cells #[.int .i64 x.k, .int .i64 x.a, .int .i64 x.b, .int .i64 x.c] 35))
          have HC2 := Lib.hid (alloc_blk (.cells #[.int .i64 x.k, .int .i64 x.a, .int .i64 x.b, .int .i64 x.c] 35) HC.out)
          obtain ⟨q0, q1⟩ := blk_cells2 HC2.out
          have Hb' := Lib.hid (show Below w.heap.size w (wr.alloc (.cells #[.int .i64 x.k, .int .i64 x.a, .int .i64 x.b, .int .i64 x.c] 35)) from Hb.out.alloc hsw _)
          have Hat := Lib.hid (all_take (p := fun g => gtB g n) hx Hyes.out)
          have Hno := Lib.hid (fun h => all_no (p := fun g => gtB g n) hx h)
          have Hc := Lib.hid (fun W => HG.out x W)
          clear hrow r1 hx
          generalize gtB x n = t at *
          go_wp2_with fail
          refine (Hc.out _).mono ?_
          rintro e w4 ⟨rfl, hb4⟩
          have HC4 := Lib.hid (below_blk hb4 (lt_of_block HC2.out) HC2.out)
          have Hb4 := Lib.hid (below_nx Hb'.out hb4)
          have hs4 := Hb4.out.size
          clear hb4 c0 c1 c2 c3 hgl
          cases t with
          | true =>
            clear Hno
            go_wp2_with fail
            go_roundg (l.length - (j + 1))
            case measure => omega
            case rel => exact ⟨j + 1, rfl, by omega, by go_num, Hat, HC4, Hb4⟩
          | false =>
            obtain rfl : T = false := HT2.out.trans (Hno.out rfl)
            clear Hno
            go_wp2_with fail
            go_ret
            exact ⟨rfl, Hb4.out⟩
        · obtain rfl : j = l.length := by omega
          have hall := Hyes.out
          rw [List.take_length] at hall
          obtain rfl : T = true := HT2.out.trans hall
          clear hall
          go_wp2_with fail
          go_ret
          exact ⟨rfl, Hb.out⟩
    · obtain rfl : T = false := HT1.out.trans (by rw [decide_eq_false h60, Bool.and_false])
      have h61 : ¬ l.length ≤ 60 := h60
      clear HT1 h60 HG
      go_enter Tryz.func38, Tryz.ntmps38
      go_wp2_with (first | (go_at_call 93; refine (Hq.out _).mono ?_; rintro e wR ⟨rfl, rfl⟩))
      go_ret
      exact ⟨rfl, Hb0.out⟩
  · have Hq := Lib.hid (fun w => iisq_no n w hn n0 n1)
    obtain rfl : T = false := HT.out.trans (by rw [decide_eq_false hn, Bool.false_and, Bool.and_false])
    clear hn HT
    go_enter Tryz.func38, Tryz.ntmps38
    go_wp2_with (first | (go_at_call 93; refine (Hq.out _).mono ?_; rintro e wR ⟨rfl, rfl⟩))
    go_ret
    exact ⟨rfl, Hb0.out⟩
set_option maxRecDepth 100000 in
set_option maxHeartbeats 3200000 in
theorem icirc (B : Nat) (n : Int) (v : Value) (l : List Gt) (w : World) (hv : gtE.Sl w B v l) (hm : l.length ≤ 1048576) (n0 : -9223372036854775808 ≤ n) (n1 : n ≤ 9223372036854775807) :
    Calls Tryz.prog 9 #[.agg #[.int .i64 n, v]] w fun e w' => (∃ r, e = .returned (.tuple #[r, .bool (ccB n l)]) ∧ DSM w' w.heap.size w'.heap.size r (ccM n l)) ∧ Below w.heap.size w w' := by
  have HX := Lib.hid (heap_alloc_new w (.cells #[.int .i64 n, v] 26))
  have Hb0 := Lib.hid (show Below w.heap.size w (w.alloc (.cells #[.int .i64 n, v] 26)) by go_grown)
  have Hv := Lib.hid (hv.below Hb0.out)
  obtain ⟨c0, c1⟩ := blk_cells2 HX.out
  have hCl := lt_of_block HX.out
  have H1 := Lib.hid (fun W (h : gtE.Sl W B v l) => ivalidC B n v l W h hm n0 n1)
  obtain ⟨pa, ca, hpa, -, -⟩ := id hv
  clear hv
  cases hc : ciB n l with
  | false =>
    rw [hc] at H1
    rw [show ccB n l = false by unfold ccB; rw [hc]; rfl, show ccM n l = [] by unfold ccM; rw [hc]; rfl]
    clear hc
    subst hpa
    go_enter Tryz.func9, Tryz.ntmps9
    go_wp2_with fail
    refine (H1.out _ Hv.out).mono ?_
    rintro e w1 ⟨rfl, hb1⟩
    have Hb1 := Lib.hid (below_nx Hb0.out hb1)
    clear hb1 c0 c1 hCl
    go_wp2_with fail
    go_returns
    exact ⟨⟨_, rfl, DSM.nil⟩, by have := Hb1.out; go_grown⟩
  | true =>
    rw [hc] at H1
    have hn : 1 ≤ n ∧ n ≤ 4 := by
      have h := hc
      unfold ciB at h
      rw [Bool.and_eq_true, Bool.and_eq_true] at h
      exact of_decide_eq_true h.2.1
    obtain ⟨m, rfl⟩ : ∃ m : Nat, n = (m : Int) := ⟨n.toNat, by omega⟩
    have H2 := Lib.hid (fun W (h : gtE.Sl W B v l) => imatL B v l m W h (by omega) (by omega) hm)
    rw [show ccB (m : Int) l = cirB l m by unfold ccB; rw [hc, Int.toNat_natCast]; rfl, show ccM (m : Int) l = cirM l m by unfold ccM; rw [hc, Int.toNat_natCast]; rfl]
    generalize cirM l m = SL at *
    generalize cirB l m = SB at *
    clear hc hn
    subst hpa
    go_enter Tryz.func9, Tryz.ntmps9
    go_wp2_with fail
    refine (H1.out _ Hv.out).mono ?_
    rintro e w1 ⟨rfl, hb1⟩
    have HX1 := Lib.hid (below_blk hb1 (lt_of_block HX.out) HX.out)
    have Hv1 := Lib.hid (Hv.out.below hb1)
    have Hb1 := Lib.hid (below_nx Hb0.out hb1)
    clear hb1 c0 c1 hCl
    obtain ⟨c0, c1⟩ := blk_cells2 HX1.out
    have hCl := lt_of_block HX1.out
    go_wp2_with fail
    refine (H2.out _ Hv1.out).mono ?_
    rintro e w3 ⟨⟨q, rfl, hd⟩, hb3⟩
    have Hd := Lib.hid (hd.mono (D := w.heap.size) (E := w3.heap.size) Hb1.out.size (Nat.le_refl _))
    have Hb3 := Lib.hid (below_nx Hb1.out hb3)
    clear hd hb3 c0 c1 hCl
    go_wp2_with fail
    go_returns
    exact ⟨⟨_, rfl, Hd.out⟩, Hb3.out⟩
end Go.Proofs.YtmpafidkpangeaaGreat
namespace Go.Proofs.YtmpafidkpangeaaGreat
/-- A gate with other qubits. -/
def movG (p : List Int) (g : Gt) : Gt := ⟨g.k, atI p g.a, if 1 < ar g.k then atI p g.b else 0, if 2 < ar g.k then atI p g.c else 0⟩
/-- PermuteIndex as a map of indices. -/
def px (p : List Int) (i : Nat) : Nat := (pix p (i : Int)).toNat
theorem px_list : allP.all (fun p => ((List.range (2 ^ p.length)).map (px p)).isPerm (List.range (2 ^ p.length))) = true := by decide +kernel
theorem px_bits : allP.all (fun p => (List.range p.length).all fun q => (List.range (2 ^ p.length)).all fun i => (bitN (px p i) (atI p (q : Int)).toNat == bitN i q) && (flipN (px p i) (atI p (q : Int)).toNat == px p (flipN i q)) && decide (flipN i q < 2 ^ p.length)) = true := by decide +kernel
theorem px_perm {p : List Int} (h : permB p = true) : ((List.range (2 ^ p.length)).map (px p)).Perm (List.range (2 ^ p.length)) := List.isPerm_iff.1 (List.all_eq_true.1 px_list p (perm_mem h))
theorem px_lt {p : List Int} (h : permB p = true) {i : Nat} (hi : i < 2 ^ p.length) : px p i < 2 ^ p.length :=
  List.mem_range.1 ((px_perm h).mem_iff.1 (List.mem_map.2 ⟨i, List.mem_range.2 hi, rfl⟩))
theorem px_onto {p : List Int} (h : permB p = true) {k : Nat} (hk : k < 2 ^ p.length) : ∃ i, i < 2 ^ p.length ∧ px p i = k := by
  obtain ⟨i, hi, e⟩ := List.mem_map.1 ((px_perm h).mem_iff.2 (List.mem_range.2 hk))
  exact ⟨i, List.mem_range.1 hi, e⟩
theorem px_inj {p : List Int} (h : permB p = true) {i j : Nat} (hi : i < 2 ^ p.length) (hj : j < 2 ^ p.length) (e : px p i = px p j) : i = j := by
  have hn : ((List.range (2 ^ p.length)).map (px p)).Nodup := (px_perm h).nodup_iff.2 List.nodup_range
  have hp := List.pairwise_iff_getElem.1 hn
  rcases Nat.lt_trichotomy i j with hl | hl | hl
  · exact absurd (by rw [List.getElem_map, List.getElem_map, List.getElem_range, List.getElem_range]; exact e) (hp i j (by simpa using hi) (by simpa using hj) hl)
  · exact hl
  · exact absurd (by rw [List.getElem_map, List.getElem_map, List.getElem_range, List.getElem_range]; exact e.symm) (hp j i (by simpa using hj) (by simpa using hi) hl)
theorem px_at {p : List Int} (h : permB p = true) {q i : Nat} (hq : q < p.length) (hi : i < 2 ^ p.length) : bitN (px p i) (atI p (q : Int)).toNat = bitN i q ∧ flipN (px p i) (atI p (q : Int)).toNat = px p (flipN i q) ∧ flipN i q < 2 ^ p.length := by
  have h1 := List.all_eq_true.1 (List.all_eq_true.1 (List.all_eq_true.1 px_bits p (perm_mem h)) q (List.mem_range.2 hq)) i (List.mem_range.2 hi)
  rw [Bool.and_eq_true, Bool.and_eq_true, beq_iff_eq, beq_iff_eq, decide_eq_true_eq] at h1
  exact ⟨h1.1.1, h1.1.2, h1.2⟩
theorem px_low {p : List Int} (h : permB p = true) {q i : Nat} (hq : q < p.length) (hi : i < 2 ^ p.length) : lowN (px p i) (atI p (q : Int)).toNat = px p (lowN i q) ∧ lowN i q < 2 ^ p.length := by
  obtain ⟨h1, h2, h3⟩ := px_at h hq hi
  unfold lowN
  rw [h1, h2]
  cases bitN i q
  · exact ⟨rfl, hi⟩
  · exact ⟨rfl, h3⟩
theorem gk1 (A B C i : Nat) : goesL 1 A B C i = [(flipN i A, dPh 0)] := rfl
theorem gk2 (A B C i : Nat) : goesL 2 A B C i = [(flipN i A, dPh (if bitN i A then 6 else 2))] := rfl
theorem gk3 (A B C i : Nat) : goesL 3 A B C i = [(i, if bitN i A then dPh 4 else dPh 0)] := rfl
theorem gk4 (A B C i : Nat) : goesL 4 A B C i = [(lowN i A, isV 1), (flipN (lowN i A) A, if bitN i A then dNegV (isV 1) else isV 1)] := rfl
theorem gk5 (A B C i : Nat) : goesL 5 A B C i = [(i, if bitN i A then dPh 2 else dPh 0)] := rfl
theorem gk6 (A B C i : Nat) : goesL 6 A B C i = [(i, if bitN i A then dPh 6 else dPh 0)] := rfl
theorem gk7 (A B C i : Nat) : goesL 7 A B C i = [(i, if bitN i A then dPh 1 else dPh 0)] := rfl
theorem gk8 (A B C i : Nat) : goesL 8 A B C i = [(i, if bitN i A then dPh 7 else dPh 0)] := rfl
theorem gk9 (A B C i : Nat) : goesL 9 A B C i = [(if bitN i A then flipN i B else i, dPh 0)] := rfl
theorem gk10 (A B C i : Nat) : goesL 10 A B C i = [(i, if (bitN i A && bitN i B) then dPh 4 else dPh 0)] := rfl
theorem gk11 (A B C i : Nat) : goesL 11 A B C i = [(if bitN i A != bitN i B then flipN (flipN i A) B else i, dPh 0)] := rfl
theorem gk12 (A B C i : Nat) : goesL 12 A B C i = [(if (bitN i A && bitN i B) then flipN i C else i, dPh 0)] := rfl
/-- Where a relabelled gate sends an amplitude. -/
theorem goes_mov {p : List Int} (hp : permB p = true) {g : Gt} (hg : gtB g p.length = true) {i : Nat} (hi : i < 2 ^ p.length) : goesG (movG p g) (px p i) = (goesG g i).map fun q => (px p q.1, q.2) := by
  obtain ⟨-, -, ha, hb, hc⟩ := gtB_parts hg
  obtain ⟨a, ha'⟩ := Int.eq_ofNat_of_zero_le ha.1
  obtain ⟨b, hb'⟩ := Int.eq_ofNat_of_zero_le hb.1
  obtain ⟨c, hc'⟩ := Int.eq_ofNat_of_zero_le hc.1
  have A := fun j hj => px_at hp (q := a) (i := j) (by omega) hj
  have B := fun j hj => px_at hp (q := b) (i := j) (by omega) hj
  have C := fun j hj => px_at hp (q := c) (i := j) (by omega) hj
  have LA := px_low hp (q := a) (i := i) (by omega) hi
  have eA := (A i hi).1
  have eB := (B i hi).1
  have eFA := (A i hi).2.1
  have eFB := (B i hi).2.1
  have eFC := (C i hi).2.1
  have eFF := (B _ (A i hi).2.2).2.1
  have eFL := (A _ LA.2).2.1
  have eL := LA.1
  rcases gtB_kinds hg with ⟨k1, k2, b0, c0⟩ | ⟨k1, k2, -, c0⟩ | ⟨k, -, -, -⟩
  · have har : ar g.k = 1 := if_pos ⟨k1, k2⟩
    unfold goesG movG
    simp only [har, ha']
    rw [b0, c0]
    simp only [Nat.lt_irrefl, show ¬ (2 < 1) by decide, if_false, Int.toNat_zero, ← ha']
    rw [ha']
    rcases (show g.k = 1 ∨ g.k = 2 ∨ g.k = 3 ∨ g.k = 4 ∨ g.k = 5 ∨ g.k = 6 ∨ g.k = 7 ∨ g.k = 8 by omega) with e | e | e | e | e | e | e | e <;> rw [e] <;> simp only [gk1, gk2, gk3, gk4, gk5, gk6, gk7, gk8, eA, eFA, eL, eFL, Int.toNat_natCast] <;> cases bitN i a <;> rfl
  · have har : ar g.k = 2 := by rw [ar, if_neg (by omega), if_pos ⟨k1, k2⟩]
    unfold goesG movG
    simp only [har, ha', hb']
    rw [c0]
    simp only [show 1 < 2 by decide, Nat.lt_irrefl, if_true, if_false, Int.toNat_natCast, Int.toNat_zero]
    rcases (show g.k = 9 ∨ g.k = 10 ∨ g.k = 11 by omega) with e | e | e <;> rw [e] <;> simp only [gk9, gk10, gk11, eA, eB, eFA, eFB, eFF] <;> cases bitN i a <;> cases bitN i b <;> rfl
  · have har : ar g.k = 3 := by rw [k]; rfl
    unfold goesG movG
    simp only [har, ha', hb', hc', show 1 < 3 by decide, show 2 < 3 by decide, if_true, Int.toNat_natCast]
    rw [k]
    simp only [gk12, eA, eB, eFC]
    cases bitN i a <;> cases bitN i b <;> rfl
theorem cf_map {N : Nat} {f : Nat → Nat} (hf : ∀ i, i < N → ∀ j, j < N → f i = f j → i = j) : ∀ (L : List (Nat × Dw)) (m : Nat), (∀ p ∈ L, p.1 < N) → m < N → cf (L.map fun q => (f q.1, q.2)) (f m) = cf L m
  | [], _, _, _ => rfl
  | q :: r, m, h, hm => by
    have ih := cf_map hf r m (fun p hp => h p (List.mem_cons_of_mem _ hp)) hm
    rw [List.map_cons, cf, cf, ih]
    by_cases e : q.1 = m
    · rw [if_pos e, if_pos (by rw [e])]
    · rw [if_neg e, if_neg fun x => e (hf _ (h q (List.mem_cons_self ..)) _ hm x)]
/-- A sum over a list of places. -/
def sumL (f : Nat → Zw) : List Nat → Zw
  | [] => .zero
  | i :: r => (f i).add (sumL f r)
theorem sumL_perm {f : Nat → Zw} {a b : List Nat} (h : a.Perm b) : sumL f a = sumL f b := by
  induction h with
  | nil => rfl
  | cons x _ ih => rw [sumL, sumL, ih]
  | swap x y l => rw [sumL, sumL, sumL, sumL, add_left']
  | trans _ _ h1 h2 => exact h1.trans h2
theorem sumL_app (f : Nat → Zw) : ∀ a b : List Nat, sumL f (a ++ b) = (sumL f a).add (sumL f b)
  | [], b => (zero_add' _).symm
  | x :: a, b => by rw [List.cons_append, sumL, sumL, sumL_app f a b, add_assoc']
theorem sumL_range (f : Nat → Zw) : ∀ n, sumL f (List.range n) = sumZ n f
  | 0 => rfl
  | n + 1 => by rw [List.range_succ, sumL_app, sumL_range f n, sumZ, sumL, sumL, add_zero']
theorem sumL_map (f : Nat → Zw) (g : Nat → Nat) : ∀ l : List Nat, sumL f (l.map g) = sumL (fun i => f (g i)) l
  | [] => rfl
  | x :: l => by rw [List.map_cons, sumL, sumL, sumL_map f g l]
theorem sumZ_px {p : List Int} (h : permB p = true) (f : Nat → Zw) : sumZ (2 ^ p.length) f = sumZ (2 ^ p.length) fun i => f (px p i) := by
  rw [← sumL_range, ← sumL_range, ← sumL_map f (px p), sumL_perm (px_perm h)]
theorem cl_mov {p : List Int} (hp : permB p = true) : ∀ (L : List Gt), (∀ g ∈ L, gtB g p.length = true) → ∀ i j, i < 2 ^ p.length → j < 2 ^ p.length → cl (2 ^ p.length) (L.map (movG p)) (px p i) (px p j) = cl (2 ^ p.length) L i j
  | [], _, i, j, hi, hj => by
    rw [List.map_nil, cl, cl]
    by_cases e : i = j
    · rw [if_pos e, if_pos (by rw [e])]
    · rw [if_neg e, if_neg fun x => e (px_inj hp hi hj x)]
  | g :: L, h, i, j, hi, hj => by
    have hg := h g (List.mem_cons_self ..)
    have hq : qc (2 ^ p.length) = p.length := by
      have := (permB_iff.1 hp).2
      rcases (show p.length = 1 ∨ p.length = 2 ∨ p.length = 3 ∨ p.length = 4 by omega) with e | e | e | e <;> rw [e] <;> decide
    rw [List.map_cons, cl, cl, sumZ_px hp]
    refine sumZ_congr fun m hm => ?_
    rw [cl_mov hp L (fun g hg => h g (List.mem_cons_of_mem _ hg)) m j hm hj, goes_mov hp hg hi, cf_map (N := 2 ^ p.length) (fun a ha b hb => px_inj hp ha hb) _ _ (fun q hq' => goesG_in (by rw [hq]; exact hg) hi q hq') hm]
/-- The matrix of a permutation. -/
theorem pm_rep {p : List Int} (hp : permB p = true) : Rep (pmM p) (2 ^ p.length) 0 fun i k => if k = px p i then oneZ else .zero := by
  have hl := (permB_iff.1 hp).2
  have hq : qc (2 ^ p.length) = p.length := by
    rcases (show p.length = 1 ∨ p.length = 2 ∨ p.length = 3 ∨ p.length = 4 by omega) with e | e | e | e <;> rw [e] <;> decide
  have hq0 : 0 < qc (2 ^ p.length) := by rw [hq]; omega
  have hM : pmM p = colsM (pmL p) := if_pos hp
  have hL : (pmL p).length = 2 ^ p.length := by rw [pmL, List.length_map, List.length_range]
  have hrow : ∀ i : Nat, i < 2 ^ p.length → (pmL p).getD i [] = (List.replicate (2 ^ p.length) .zero).set (px p i) oneD := fun i hi => by
    have hb := basis_eq hq0 (px_lt hp hi)
    rw [hq] at hb
    have hx : ((px p i : Nat) : Int) = pix p (i : Int) := by
      unfold px
      have := (pix_rg (p := p) (i : Int)).1
      omega
    rw [← hb, hx, pmL, List.getD_eq_getElem?_getD, List.getElem?_map, List.getElem?_range hi]
    rfl
  rw [hM]
  have hent : ∀ k i : Nat, i < 2 ^ p.length → ((pmL p).getD i []).getD k .zero = if px p i = k then oneD else .zero := fun k i hi => by
    rw [hrow i hi, getD_set _ _ _ _ (by rw [List.length_replicate]; exact px_lt hp hi), rep_getD]
  refine ⟨by rw [colsM_len, hL], fun r hr => ?_, fun k hk i hi => ?_⟩
  · obtain ⟨k, -, rfl⟩ := List.mem_map.1 hr
    refine ⟨by rw [col_len, hL], fun x hx => ?_⟩
    obtain ⟨i, hi⟩ := List.getElem?_of_mem hx
    have hiN : i < 2 ^ p.length := by
      rcases Nat.lt_or_ge i (col (pmL p) k).length with h' | h'
      · rwa [col_len, hL] at h'
      · rw [List.getElem?_eq_none h'] at hi; cases hi
    have hx' : x = (col (pmL p) k).getD i .zero := by rw [List.getD_eq_getElem?_getD, hi]; rfl
    rw [hx', col_getD _ _ _ (by omega), hent k i hiN]
    split
    · exact oneD_ok
    · exact zero_ok
  · rw [colsM_getD _ _ (by omega), col_getD _ _ _ (by omega), hent k i hi]
    show rootN 0 (vl (if px p i = k then oneD else .zero)) = rootN 60 (if k = px p i then oneZ else .zero)
    by_cases e : px p i = k
    · rw [if_pos e, if_pos e.symm]; exact vl_one
    · rw [if_neg e, if_neg fun x => e x.symm, vl_zero, rootN_z, rootN_z]
/-- A relabelled circuit performs the same operation on the relabelled qubits. -/
theorem cir_moved {p : List Int} (hp : permB p = true) {L : List Gt} (hg : ∀ g ∈ L, gtB g p.length = true) (h1 : cirB L p.length = true) (h2 : cirB (L.map (movG p)) p.length = true)
    (h3 : mulMB (cirM (L.map (movG p)) p.length) (pmM p) = true) (h4 : mulMB (pmM p) (cirM L p.length) = true) : mulM (cirM (L.map (movG p)) p.length) (pmM p) = mulM (pmM p) (cirM L p.length) := by
  have hl := (permB_iff.1 hp).2
  have ra := cir_rep (by omega) (by omega) h1
  have rb := cir_rep (by omega) (by omega) h2
  have rp := pm_rep hp
  have rx := mul_rep rb rp h3
  have ry := mul_rep rp ra h4
  rw [List.length_map, Nat.add_zero] at rx
  rw [Nat.zero_add] at ry
  refine rx.eq ry fun i hi k hk => ?_
  obtain ⟨k', hk', rfl⟩ := px_onto hp hk
  rw [sumZ_one (fun m => (if m = px p i then oneZ else Zw.zero).mul (cl (2 ^ p.length) (L.map (movG p)) m (px p k'))) (px_lt hp hi) fun m _ hm => by rw [if_neg hm, zero_mul'], if_pos rfl, oneZ_mul, cl_mov hp L hg i k' hi hk']
  rw [sumZ_one (fun m => (cl (2 ^ p.length) L i m).mul (if px p k' = px p m then oneZ else Zw.zero)) hk' fun m hm hne => by rw [if_neg fun e => hne (px_inj hp hk' hm e).symm, mul_zero'], if_pos rfl, mul_oneZ]
end Go.Proofs.YtmpafidkpangeaaGreat
namespace Go.Proofs.YtmpafidkpangeaaGreat
/-- Every coefficient lies within K. -/
def Mx (K : Int) (z : Zw) : Prop := (-K ≤ z.a ∧ z.a ≤ K) ∧ (-K ≤ z.b ∧ z.b ≤ K) ∧ (-K ≤ z.c ∧ z.c ≤ K) ∧ (-K ≤ z.d ∧ z.d ≤ K)
theorem Mx.root_back {K : Int} {z : Zw} (h : Mx K z.root) : Mx K z := by
  unfold Mx Zw.root at h
  simp only at h
  unfold Mx
  omega
theorem Mx.rootN_back {K : Int} : ∀ (k : Nat) {z : Zw}, Mx K (rootN k z) → Mx K z
  | 0, _, h => h
  | k + 1, z, h => Mx.rootN_back k (Mx.root_back (by rwa [← rootN_succ]))
theorem Mx.add {K J : Int} {x y : Zw} (h : Mx K x) (k : Mx J y) : Mx (K + J) (x.add y) := by
  unfold Mx at *
  unfold Zw.add
  simp only
  omega
theorem prod_in {K u v : Int} (h0 : -K ≤ u) (h1 : u ≤ K) (k0 : -K ≤ v) (k1 : v ≤ K) : -(K * K) ≤ u * v ∧ u * v ≤ K * K := by
  have a1 := Int.mul_nonneg (show 0 ≤ K - u by omega) (show 0 ≤ K + v by omega)
  have a2 := Int.mul_nonneg (show 0 ≤ K + u by omega) (show 0 ≤ K - v by omega)
  have a3 := Int.mul_nonneg (show 0 ≤ K - u by omega) (show 0 ≤ K - v by omega)
  have a4 := Int.mul_nonneg (show 0 ≤ K + u by omega) (show 0 ≤ K + v by omega)
  rw [Int.sub_mul, Int.mul_add, Int.mul_add] at a1
  rw [Int.add_mul, Int.mul_sub, Int.mul_sub] at a2
  rw [Int.sub_mul, Int.mul_sub, Int.mul_sub] at a3
  rw [Int.add_mul, Int.mul_add, Int.mul_add] at a4
  constructor <;> omega
theorem Mx.mul {K : Int} {x y : Zw} (h : Mx K x) (k : Mx K y) : Mx (4 * (K * K)) (x.mul y) := by
  obtain ⟨⟨a0, a1⟩, ⟨b0, b1⟩, ⟨c0, c1⟩, d0, d1⟩ := h
  obtain ⟨⟨e0, e1⟩, ⟨f0, f1⟩, ⟨g0, g1⟩, i0, i1⟩ := k
  have p1 := prod_in a0 a1 e0 e1
  have p2 := prod_in a0 a1 f0 f1
  have p3 := prod_in a0 a1 g0 g1
  have p4 := prod_in a0 a1 i0 i1
  have q1 := prod_in b0 b1 e0 e1
  have q2 := prod_in b0 b1 f0 f1
  have q3 := prod_in b0 b1 g0 g1
  have q4 := prod_in b0 b1 i0 i1
  have r1 := prod_in c0 c1 e0 e1
  have r2 := prod_in c0 c1 f0 f1
  have r3 := prod_in c0 c1 g0 g1
  have r4 := prod_in c0 c1 i0 i1
  have s1 := prod_in d0 d1 e0 e1
  have s2 := prod_in d0 d1 f0 f1
  have s3 := prod_in d0 d1 g0 g1
  have s4 := prod_in d0 d1 i0 i1
  unfold Mx Zw.mul
  simp only
  omega
theorem Mx.ok {K : Int} {x : Zw} (h : Mx K x) (hK : K ≤ 1073741824) : x.ok := by
  unfold Mx at h
  unfold Zw.ok Near
  omega
theorem upB_of : ∀ (k : Nat) {n : Zw}, (∀ i, i ≤ k → (rootN i n).ok) → upB k n = true
  | 0, _, _ => rfl
  | k + 1, n, h => by
    have h0 := h 0 (by omega)
    have h1 := h 1 (by omega)
    rw [upB, Bool.and_eq_true]
    refine ⟨?_, upB_of k fun i hi => ?_⟩
    · unfold mulB
      rw [decide_eq_true_eq]
      exact ⟨h0, by decide, by rw [mul_rootE]; exact h1⟩
    · have := h (i + 1) (by omega)
      rwa [Nat.add_comm, rootN_add] at this
/-- x is, over the root's power t, a number with small coefficients. -/
def Ov (t : Nat) (K : Int) (x : Dw) : Prop := x.ok ∧ ∃ P, rootN t (vl x) = rootN 60 P ∧ Mx K P
theorem Ov.exp {t : Nat} {K : Int} {x : Dw} (h : Ov t K x) : x.e ≤ t ∧ ∀ i, i ≤ t - x.e.toNat → Mx K (rootN i x.n) := by
  obtain ⟨hx, P, hP, hK⟩ := h
  obtain ⟨x1, x2, x3, x4⟩ := hx
  unfold vl at hP
  rw [← rootN_add] at hP
  have hle : x.e ≤ t := by
    rcases Int.lt_or_le (t : Int) x.e with hl | hl
    · exfalso
      have h1 : x.n = rootN (x.e.toNat - t) P := by
        apply rootN_inj (k := 60 - x.e.toNat + t)
        rw [hP, ← rootN_add]
        congr 1; omega
      rcases x4 with x4 | x4
      · omega
      · have hm : x.n = (rootN (x.e.toNat - t - 1) P).root := by
          rw [h1, show x.e.toNat - t = (x.e.toNat - t - 1) + 1 by omega, rootN_succ]
          congr 2
        have hd : divB x.n = true := by
          rw [divB_iff]
          refine ⟨x1, ?_⟩
          rw [hm]
          unfold Zw.even Zw.root
          simp only
          omega
        rw [x4] at hd
        cases hd
    · exact hl
  refine ⟨hle, fun i hi => ?_⟩
  have h2 : rootN (t - x.e.toNat) x.n = P := by
    apply rootN_inj (k := 60)
    rw [← hP, ← rootN_add]
    congr 1; omega
  rw [← h2, show t - x.e.toNat = i + (t - x.e.toNat - i) by omega, rootN_add] at hK
  exact hK.rootN_back _
theorem Ov.mul {t : Nat} {K : Int} {x y : Dw} (h : Ov t K x) (k : Ov t K y) (_ : K ≤ 1073741824) (h4 : 4 * (K * K) ≤ 1073741824) (ht : t ≤ 30) : dMulB x y = true ∧ Ov (2 * t) (4 * (K * K)) (dMulV x y) := by
  obtain ⟨hx, P, hP, hPK⟩ := id h
  obtain ⟨hy, Q, hQ, hQK⟩ := id k
  obtain ⟨ex, mx⟩ := h.exp
  obtain ⟨ey, my⟩ := k.exp
  have x0 := hx.2.1
  have y0 := hy.2.1
  have hmul := (mx 0 (by omega)).mul (my 0 (by omega))
  have hok : (x.n.mul y.n).ok := hmul.ok h4
  have hB : dMulB x y = true := by
    rw [dMulB_iff]
    refine ⟨hx, hy, ?_, ?_⟩
    · unfold mulB
      rw [decide_eq_true_eq]
      exact ⟨hx.1, hy.1, hok⟩
    · rw [newB_iff]
      refine ⟨hok, by omega, by omega, ?_⟩
      have := red_le (x.e + y.e).toNat (x.n.mul y.n)
      omega
  refine ⟨hB, dMulV_ok hB, P.mul Q, ?_, hPK.mul hQK⟩
  have hv := vl_mul hB
  apply rootN_inj (k := 60)
  rw [rootN_comm, hv, show 2 * t = t + t by omega, rootN_mul2, hP, hQ, ← rootN_mul2, rootN_add]
theorem Ov.add {t : Nat} {K J : Int} {x y : Dw} (h : Ov t K x) (k : Ov t J y) (hK : 0 ≤ K) (hJ : 0 ≤ J) (hs : K + J ≤ 1073741824) (ht : t ≤ 60) : dAddB x y = true ∧ Ov t (K + J) (dAddV x y) := by
  obtain ⟨hx, P, hP, hPK⟩ := id h
  obtain ⟨hy, Q, hQ, hQK⟩ := id k
  obtain ⟨ex, mx⟩ := h.exp
  obtain ⟨ey, my⟩ := k.exp
  have x0 := hx.2.1
  have y0 := hy.2.1
  obtain ⟨t1, t2, t3⟩ := topE_le x y
  have hA : Mx K (numA x y) := mx _ (by omega)
  have hBy : Mx J (numB x y) := my _ (by omega)
  have hsum := hA.add hBy
  have hok : ((numA x y).add (numB x y)).ok := hsum.ok hs
  have hB : dAddB x y = true := by
    rw [dAddB_iff]
    refine ⟨hx, hy, upB_of _ fun i hi => (mx i (by omega)).ok (by omega), upB_of _ fun i hi => (my i (by omega)).ok (by omega), ?_, ?_⟩
    · unfold addB
      rw [decide_eq_true_eq]
      exact ⟨hA.ok (by omega), hBy.ok (by omega), hok⟩
    · rw [newB_iff]
      refine ⟨hok, by omega, by omega, ?_⟩
      have := red_le (topE x y).toNat ((numA x y).add (numB x y))
      omega
  refine ⟨hB, dAddV_ok hB, P.add Q, ?_, hPK.add hQK⟩
  rw [vl_add hB, rootN_addZ, rootN_addZ, hP, hQ]
/-- The coefficients of gates one behind the other, over the root's power of the number of GateH. -/
def hs (L : List Gt) : Nat := (L.map fun g => scK g.k).sum
theorem scK_le (k : Int) : scK k ≤ 1 := by unfold scK; split <;> omega
theorem hs_le : ∀ L : List Gt, hs L ≤ L.length
  | [] => Nat.le_refl _
  | g :: L => by
    have := hs_le L
    have := scK_le g.k
    rw [show hs (g :: L) = scK g.k + hs L by simp [hs], List.length_cons]
    omega
theorem hs_cons (g : Gt) (L : List Gt) : hs (g :: L) = scK g.k + hs L := by simp [hs]
end Go.Proofs.YtmpafidkpangeaaGreat
namespace Go.Proofs.YtmpafidkpangeaaGreat
end Go.Proofs.YtmpafidkpangeaaGreat
