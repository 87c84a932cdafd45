/- BaseB19: several of our texts in one: ApKe ApK. -/
import Derived.Test.YtkcpemkahkkcmaaApKd
import Derived.Test.YtkcpemkahkkcmaaBaseB13
import Derived.Test.YtkcpemkahkkcmaaGsL
import Derived.Test.YtkcpemkahkkcmaaBaseB14
import Derived.Lib.SliceRun
import Derived.Test.YtkcpemkahkkcmaaBaseB21
import Derived.Test.YtkcpemkahkkcmaaBaseB22
import Derived.Test.YtkcpemkahkkcmaaBaseB23
namespace Go.Proofs.Ytkcpemkahkkcmaa
open Go.RowKit
attribute [local irreducible] World.cell?
set_option maxRecDepth 100000 in
set_option maxHeartbeats 1600000 in
theorem iclone (B : Nat) (v : Value) (l : List Dw) (w : World) (hv : DSl w B v l) (h0 : 0 < l.length) (hm : l.length ≤ 1048576) :
    Calls Try.prog 96 #[v] w fun e w' => ∃ r, e = .returned r ∧ DSl w' w.heap.size r l ∧ Below w.heap.size w w' := by
  obtain ⟨i0, hi, hz0, hz1, hz2⟩ := info_parts infoDw
  have qT : ∀ (w : World) (a : Option Addr) (n c n' c' : Nat), (binOp .eql 31 (.slice a n c) (.slice none n' c')).run Try.prog w = .ok (.bool a.isNone) w := fun w a n c n' c' => Lib.run_eql_slice_nil w _ _ a n c n' c' Try.underlying31
  obtain ⟨a, cap, rfl, hcap, hr⟩ := hv
  obtain ⟨g, rfl, hg, hrow⟩ := hr h0
  have Hsrc := Lib.hid (row_src (hrow.alloc (.cells #[] 86)))
  have Hown := Lib.hid (own_new (w := w) (n := w.heap.size) (t := 86) rfl)
  have Hp := Lib.hid (flat_plain l)
  have Hl := Lib.hid (flat_len l)
  clear hr hrow
  go_enter Try.func96, Try.ntmps96
  go_wp2_with (first
    | (at_builtin; refine wpList_append_own _ rfl _ _ 31 rfl w.heap.size 86 i0 (.agg #[.int .i64 0, .int .i64 0, .int .i64 0, .int .i64 0, .int .i64 0]) 5 40 Try.underlying31 hi hz0 hz1 hz2 rfl (by decide) _ _ _ rfl Hown.out ⟨g, 0, none⟩ l.length cap (flat l) rfl Hl.out Hsrc.out Hp.out ?d3 ?d4 ?d5 ?_))
  case d3 => unfold maxLen; omega
  case d4 => omega
  case d5 => first | omega | (simp; omega) | simp
  intro v' w4 hown' hgrow _
  have hown2 : w4.ownsRow w.heap.size 86 5 v' l.length (flat l) := by
    have h : w4.ownsRow w.heap.size 86 5 v' l.length ([] ++ flat l) := hown'
    rwa [List.nil_append] at h
  have Hs := Lib.hid (DSl.of_own hown2)
  have HB := Lib.hid (((Below.refl w.heap.size w).alloc (Nat.le_refl _) (.cells #[] 86)).grown hgrow (by simp) (fun q hq => by have := Hown.out.lt q hq; omega))
  clear hown' hown2 hgrow
  go_wp2_with fail
  go_ret
  exact ⟨_, rfl, Hs.out, HB.out⟩
set_option maxRecDepth 100000 in
set_option maxHeartbeats 3200000 in
theorem iapGs_yes (B : Nat) (a0 : Option Addr) (capg : Nat) (v : Value) (L : List Gt) (l : List Dw) (w : World) (hg : GsIn w w.heap.size a0 L) (hv : DSl w B v l) (hst : stB l = true) (hL : L.length ≤ 1048576) :
    Calls Try.prog 40 #[.slice a0 L.length capg, v] w fun e w' => (∃ r, e = .returned (.tuple #[r, .bool (agsB L l)]) ∧ DSl w' w.heap.size r (agsV L l)) ∧ Below w.heap.size w w' := by
  have hlen := stB_len hst
  have h2 := stB_iff.1 hst
  have hpos : 0 < l.length := by have := qc_len h2.2; omega
  have H1 := Lib.hid (ivalidSt B v l w hv (fun x hx => ok_eb (h2.1 x hx)) (by omega))
  have H2 := Lib.hid (fun W (h : DSl W B v l) => iclone B v l W h hpos (by omega))
  have H3 := Lib.hid (fun (g : Gt) (D : Nat) (u : Value) (o : List Dw) W (h : DSl W D u o) (he : ∀ x ∈ o, x.ok) (hm : o.length ≤ 1048576) => iapG D g u o W h (fun x hx => ok_eb (he x hx)) hm)
  have Hok := Lib.hid h2.1
  have Hv := Lib.hid hv
  rw [hst] at H1
  have HO := Lib.hid (show agsO L l = agsF L l by unfold agsO; rw [hst]; rfl)
  have HV := Lib.hid (show agsV L l = (agsO L l).getD [] from rfl)
  have HT := Lib.hid (show agsB L l = (agsO L l).isSome from rfl)
  generalize agsV L l = V at *
  generalize agsB L l = T at *
  generalize agsO L l = O at *
  have Hg := Lib.hid hg
  clear hst h2 hpos hg
  obtain ⟨av, capv, rfl, -, -⟩ := hv
  go_enter Try.func40, Try.ntmps40
  go_wp2_with fail
  refine (H1.out).mono ?_
  rintro e w1 ⟨rfl, hb1⟩
  have Hb1 := Lib.hid hb1
  have Hv1 := Lib.hid (Hv.out.below hb1)
  have hs1 := hb1.size
  clear hb1
  go_wp2_with fail
  refine (H2.out _ Hv1.out).mono ?_
  rintro e w2 ⟨u, rfl, hd2, hb2⟩
  have Hb2 := Lib.hid (below_nx Hb1.out hb2)
  have Hd2 := Lib.hid (hd2.mono hs1)
  have Hst := Lib.hid (show agsF (L.drop 0) l = O from HO.out.symm)
  clear hd2 hb2 H1 H2 HO
  go_wp2_with fail
  go_loopg [6, 18] L.length (fun m ov i wr => ∃ (j : Nat) (o : List Dw) (u' : Value), m = L.length - j ∧ j ≤ L.length ∧ i = .int .i64 j ∧ u' = ov ∧ o.length ≤ 16 ∧ Hid (∀ x ∈ o, x.ok) ∧ Hid (agsF (L.drop j) o = O) ∧ Hid (DSl wr w.heap.size u' o) ∧ Hid (Below w.heap.size w wr))
  case atStart => exact ⟨0, l, u, rfl, Nat.zero_le _, rfl, rfl, hlen, Hok, Hst, Hd2, Hb2⟩
  case round =>
    obtain ⟨j, o, u', rfl, hj, rfl, rfl, ho, Hok2, Hap, Hd, Hb⟩ := hrel
    have hsw := Hb.out.size
    by_cases hlt : j < L.length
    · obtain ⟨g, hx⟩ : ∃ g, L[j]? = some g := ⟨L[j], List.getElem?_eq_getElem hlt⟩
      obtain ⟨gg, off, rfl, hgB, hcl⟩ := (Hg.out.below Hb.out).2 (by omega)
      obtain ⟨c0, c1, c2, c3⟩ := hcl j g hx
      have hgl := Nat.lt_of_lt_of_le hgB hsw
      have HX := Lib.hid (heap_alloc_new wr (.cells #[.int .i64 g.k, .int .i64 g.a, .int .i64 g.b, .int .i64 g.c] 66))
      have Hb' := Lib.hid (show Below w.heap.size w (wr.alloc (.cells #[.int .i64 g.k, .int .i64 g.a, .int .i64 g.b, .int .i64 g.c] 66)) from Hb.out.alloc hsw _)
      have Hd' := Lib.hid (Hd.out.below ((Below.refl _ _).alloc (Nat.le_refl _) (.cells #[.int .i64 g.k, .int .i64 g.a, .int .i64 g.b, .int .i64 g.c] 66)))
      have hs' : w.heap.size ≤ (wr.alloc (.cells #[.int .i64 g.k, .int .i64 g.a, .int .i64 g.b, .int .i64 g.c] 66)).heap.size := by simp; omega
      have Hstep := Lib.hid (ags_step (o := o) hx)
      have hvl := agV_len g o
      have Hok3 := Lib.hid (agV_oks g o)
      have Hc := Lib.hid (H3.out g _ _ o (wr.alloc (.cells #[.int .i64 g.k, .int .i64 g.a, .int .i64 g.b, .int .i64 g.c] 66)) Hd'.out Hok2.out (by omega))
      have Hs' := Lib.hid hs'
      clear hx hcl hgB hs'
      generalize agV g o = o2 at *
      generalize agB g o = t at *
      go_wp2_with fail
      refine (Hc.out).mono ?_
      rintro e w4 ⟨⟨r, rfl, hd4⟩, hb4⟩
      have Hd4 := Lib.hid (hd4.mono Hs'.out)
      have Hb4 := Lib.hid (below_up Hb'.out hb4 Hs'.out)
      have hs4 := Hb4.out.size
      clear hd4 hb4 c0 c1 c2 c3 Hc hgl
      have h := Hstep.out.symm.trans Hap.out
      cases t with
      | true =>
        have Hn := Lib.hid (show agsF (L.drop (j + 1)) o2 = O from h)
        clear h
        go_wp2_with fail
        go_roundg (L.length - (j + 1))
        case measure => omega
        case rel => exact ⟨j + 1, o2, r, rfl, by omega, by go_num, rfl, by omega, Hok3, Hn, Hd4, Hb4⟩
      | false =>
        have hO : O = none := h.symm
        subst hO
        obtain rfl : V = [] := HV.out
        obtain rfl : T = false := HT.out
        clear h
        go_wp2_with fail
        go_returns
        exact ⟨⟨_, rfl, DSl.nil⟩, by have := Hb4.out; go_grown⟩
    · obtain rfl : j = L.length := by omega
      have hO := Hap.out
      rw [List.drop_of_length_le (Nat.le_refl _)] at hO
      obtain rfl : V = o := HV.out.trans (by rw [← hO]; rfl)
      obtain rfl : T = true := HT.out.trans (by rw [← hO]; rfl)
      clear hO
      go_wp2_with fail
      go_returns
      exact ⟨⟨_, rfl, Hd.out⟩, Hb.out⟩
set_option maxRecDepth 100000 in
set_option maxHeartbeats 1600000 in
theorem iapGs0 (B : Nat) (a0 : Option Addr) (cap : Nat) (v : Value) (L : List Gt) (l : List Dw) (w : World) (hg : GsIn w w.heap.size a0 L) (hv : DSl w B v l) (he : Eb l) (hm : l.length ≤ 1048576) (hn : L.length ≤ 1048576) : Calls Try.prog 40 #[.slice a0 L.length cap, v] w fun e w' => (∃ r, e = .returned (.tuple #[r, .bool (agsB L l)]) ∧ DSl w' w.heap.size r (agsV L l)) ∧ Below w.heap.size w w' := by
  cases hst : stB l with
  | true => exact iapGs_yes B a0 cap v L l w hg hv hst hn
  | false =>
    have h0 : agsO L l = none := by unfold agsO; rw [hst]; rfl
    rw [show agsB L l = false by unfold agsB; rw [h0]; rfl, show agsV L l = [] by unfold agsV; rw [h0]; rfl]
    have H1 := Lib.hid (ivalidSt B v l w hv he hm)
    rw [hst] at H1
    clear hst h0 hg he
    obtain ⟨av, capv, rfl, -, -⟩ := hv
    go_enter Try.func40, Try.ntmps40
    go_wp2_with fail
    refine (H1.out).mono ?_
    rintro e w1 ⟨rfl, hb1⟩
    have Hb1 := Lib.hid hb1
    have hs1 := hb1.size
    clear hb1
    go_wp2_with fail
    go_returns
    exact ⟨⟨_, rfl, DSl.nil⟩, by have := Hb1.out; go_grown⟩
theorem iapGs (B C : Nat) (vg v : Value) (L : List Gt) (l : List Dw) (w : World) (hg : gtE.Sl w C vg L) (hv : DSl w B v l) (he : Eb l) (hm : l.length ≤ 1048576) (hn : L.length ≤ 1048576) : Calls Try.prog 40 #[vg, v] w fun e w' => (∃ r, e = .returned (.tuple #[r, .bool (agsB L l)]) ∧ DSl w' w.heap.size r (agsV L l)) ∧ Below w.heap.size w w' := by
  obtain ⟨a, cap, rfl, h⟩ := GsIn.of_sl hg hn
  exact iapGs0 B a cap v L l w h hv he hm hn
end Go.Proofs.Ytkcpemkahkkcmaa
namespace Go.Proofs.Ytkcpemkahkkcmaa
open Go.RowKit
theorem col_id1 : ∀ k : Fin 2, col (idM 1) k.val = basisL 1 ((k.val : Nat) : Int) := by decide +kernel
theorem col_id2 : ∀ k : Fin 4, col (idM 2) k.val = basisL 2 ((k.val : Nat) : Int) := by decide +kernel
theorem col_id3 : ∀ k : Fin 8, col (idM 3) k.val = basisL 3 ((k.val : Nat) : Int) := by decide +kernel
theorem col_id4 : ∀ k : Fin 16, col (idM 4) k.val = basisL 4 ((k.val : Nat) : Int) := by decide +kernel
theorem col_id {n : Int} (h : 1 ≤ n ∧ n ≤ 4) {k : Nat} (hk : k < 2 ^ n.toNat) : col (idM n) k = basisL n (k : Int) := by
  rcases (show n = 1 ∨ n = 2 ∨ n = 3 ∨ n = 4 by omega) with rfl | rfl | rfl | rfl
  · exact col_id1 ⟨k, hk⟩
  · exact col_id2 ⟨k, hk⟩
  · exact col_id3 ⟨k, hk⟩
  · exact col_id4 ⟨k, hk⟩
theorem ag_basisB {g : Gt} {n : Int} (hg : gtB g n = true) {k : Nat} (hk : k < 2 ^ n.toNat) : agB g (basisL n (k : Int)) = true := by
  have h := gmL_rows hg (agV g (basisL n (k : Int))) (List.mem_map.2 ⟨k, List.mem_range.2 hk, rfl⟩)
  unfold agB
  unfold agV at h
  cases ho : agO g (basisL n (k : Int)) with
  | some o => rfl
  | none =>
    rw [ho] at h
    have : 0 < 2 ^ n.toNat := Nat.two_pow_pos _
    simp at h
    omega
theorem idM_rows {n : Int} (h : 1 ≤ n ∧ n ≤ 4) : ∀ r ∈ idM n, (idM n).length ≤ r.length := by
  rcases (show n = 1 ∨ n = 2 ∨ n = 3 ∨ n = 4 by omega) with rfl | rfl | rfl | rfl <;> decide +kernel
theorem basis_ok (n : Int) (h : 1 ≤ n ∧ n ≤ 4) : ∀ k : Nat, k < 2 ^ n.toNat → (∀ x ∈ basisL n (k : Int), x.ok) ∧ (basisL n (k : Int)).length ≤ 16 := by
  have h1 : ∀ k : Fin 2, (∀ x ∈ basisL 1 ((k.val : Nat) : Int), x.ok) ∧ (basisL 1 ((k.val : Nat) : Int)).length ≤ 16 := by decide +kernel
  have h2 : ∀ k : Fin 4, (∀ x ∈ basisL 2 ((k.val : Nat) : Int), x.ok) ∧ (basisL 2 ((k.val : Nat) : Int)).length ≤ 16 := by decide +kernel
  have h3 : ∀ k : Fin 8, (∀ x ∈ basisL 3 ((k.val : Nat) : Int), x.ok) ∧ (basisL 3 ((k.val : Nat) : Int)).length ≤ 16 := by decide +kernel
  have h4 : ∀ k : Fin 16, (∀ x ∈ basisL 4 ((k.val : Nat) : Int), x.ok) ∧ (basisL 4 ((k.val : Nat) : Int)).length ≤ 16 := by decide +kernel
  intro k hk
  rcases (show n = 1 ∨ n = 2 ∨ n = 3 ∨ n = 4 by omega) with rfl | rfl | rfl | rfl
  · exact h1 ⟨k, hk⟩
  · exact h2 ⟨k, hk⟩
  · exact h3 ⟨k, hk⟩
  · exact h4 ⟨k, hk⟩
attribute [local irreducible] World.cell?
set_option maxRecDepth 100000 in
set_option maxHeartbeats 1600000 in
theorem igm1 (D b : Nat) (g : Gt) (c : Value) (l : List Dw) (w : World) (hx : w.heap[b]? = some (.cells #[.int .i64 g.k, .int .i64 g.a, .int .i64 g.b, .int .i64 g.c] 66 (0, 0))) (hc : DSl w D c l) (he : Eb l) (hm : l.length ≤ 1048576) :
    Calls Try.prog 109 #[c, .pointer (some ⟨b, 0, none⟩)] w fun e w' => (∃ r, e = .returned (.tuple #[r, .bool (agB g l)]) ∧ DSl w' w.heap.size r (agV g l)) ∧ Below w.heap.size w w' := by
  have H := Lib.hid (iapG D g c l w hc he hm)
  obtain ⟨c0, c1, c2, c3⟩ := blk_cells hx
  have hg := lt_of_block hx
  clear hx he hm
  generalize agV g l = SL at *
  generalize agB g l = SB at *
  obtain ⟨a', cap', rfl, -, -⟩ := hc
  go_enter Try.func109, Try.ntmps109
  go_wp2_with fail
  refine (H.out).mono ?_
  rintro e w1 ⟨⟨q, rfl, hd⟩, hb1⟩
  have Hd := Lib.hid hd
  have Hb1 := Lib.hid hb1
  clear hd hb1
  go_wp2_with fail
  go_returns
  exact ⟨⟨_, rfl, Hd.out⟩, Hb1.out⟩
set_option maxRecDepth 100000 in
set_option maxHeartbeats 3200000 in
theorem imatG (g : Gt) (n : Int) (w : World) (h0 : -9223372036854775808 ≤ n) (h1 : n ≤ 9223372036854775807) : Calls Try.prog 64 #[(.agg #[.int .i64 g.k, .int .i64 g.a, .int .i64 g.b, .int .i64 g.c]), .int .i64 n] w fun e w' => (∃ r, e = .returned (.tuple #[r, .bool (gtB g n)]) ∧ DSM w' w.heap.size w'.heap.size r (gmM g n)) ∧ Below w.heap.size w w' := by
  have H1 := Lib.hid (fun W => ivalidG g n W h0 h1)
  have HX := Lib.hid (heap_alloc_new w (.cells #[.int .i64 g.k, .int .i64 g.a, .int .i64 g.b, .int .i64 g.c] 66))
  have Hb0 := Lib.hid (show Below w.heap.size w (w.alloc (.cells #[.int .i64 g.k, .int .i64 g.a, .int .i64 g.b, .int .i64 g.c] 66)) by go_grown)
  obtain ⟨c0, c1, c2, c3⟩ := blk_cells HX.out
  cases hg : gtB g n with
  | false =>
    rw [hg] at H1
    rw [show gmM g n = [] from if_neg (by rw [hg]; decide)]
    clear hg
    go_enter Try.func64, Try.ntmps64
    go_wp2_with fail
    refine (H1.out _).mono ?_
    rintro e w1 ⟨rfl, hb1⟩
    have Hb1 := Lib.hid (below_nx Hb0.out hb1)
    clear hb1 c0 c1 c2 c3
    go_wp2_with fail
    go_returns
    exact ⟨⟨_, rfl, DSM.nil⟩, by have := Hb1.out; go_grown⟩
  | true =>
    rw [hg] at H1
    have hn := (gtB_parts hg).1
    have H2 := Lib.hid (fun W => iident n W h0 h1)
    have hl := idM_len hn
    have eF : ∀ args w, (callFunc 109 args).run Try.prog w = .ok (.enter 109 args) w := Try.call109
    have h16 : (idM n).length ≤ 16 := (idM_amps n).1
    have H3 := Lib.hid (fun R S u W (h : DSM W R S u (idM n)) (hx : W.heap[w.heap.size]? = some (.cells #[.int .i64 g.k, .int .i64 g.a, .int .i64 g.b, .int .i64 g.c] 66 (0, 0))) =>
      imapC 109 #[.pointer (some ⟨w.heap.size, 0, none⟩)] eF R S u (idM n) (fun _ => true) (fun k => agV g (basisL n (k : Int))) W h (idM_rows hn) (by omega) (fun k hk _ => by rw [hl] at hk ⊢; exact gmL_rows hg _ (List.mem_map.2 ⟨k, List.mem_range.2 hk, rfl⟩))
        (fun k hk D c W' hW hc => by
          rw [hl] at hk
          rw [col_id hn hk] at hc
          have h3 := igm1 D w.heap.size g c (basisL n (k : Int)) W' ((hW.block _ (lt_of_block hx)).trans hx) hc (fun x hx => ok_eb ((basis_ok n hn k hk).1 x hx)) (by have := (basis_ok n hn k hk).2; omega)
          rw [ag_basisB hg hk] at h3
          exact h3))
    have hM : gmM g n = if (List.range (idM n).length).all (fun _ => true) = true then colsM (mapX (idM n).length fun k => agV g (basisL n (k : Int))) else [] := by
      rw [if_pos (by rw [List.all_eq_true]; exact fun _ _ => rfl), hl]
      exact if_pos hg
    rw [hM]
    have hT : (List.range (idM n).length).all (fun _ => true) = true := by rw [List.all_eq_true]; exact fun _ _ => rfl
    rw [hT] at H3 ⊢
    clear hg hM hT hl h16 hn
    generalize (if true = true then colsM (mapX (idM n).length fun k => agV g (basisL n (k : Int))) else []) = SL at *
    go_enter Try.func64, Try.ntmps64
    go_wp2_with fail
    refine (H1.out _).mono ?_
    rintro e w1 ⟨rfl, hb1⟩
    have HX1 := Lib.hid (below_blk hb1 (lt_of_block HX.out) HX.out)
    have Hb1 := Lib.hid (below_nx Hb0.out hb1)
    have hs1 := Hb1.out.size
    clear hb1 c0 c1 c2 c3
    go_wp2_with fail
    refine (H2.out _).mono ?_
    rintro e w2 ⟨u, rfl, hd2, hb2⟩
    have H4 := Lib.hid (H3.out _ _ _ _ hd2 (below_blk hb2 (lt_of_block HX1.out) HX1.out))
    have Hb2 := Lib.hid (below_nx Hb1.out hb2)
    have hs2 := Hb2.out.size
    clear hb2 hd2 H3
    go_wp2_with fail
    refine (H4.out).mono ?_
    rintro e w3 ⟨⟨q, rfl, hd⟩, hb3⟩
    have Hd := Lib.hid (hd.mono (D := w.heap.size) (E := w3.heap.size) hs2 (Nat.le_refl _))
    have Hb3 := Lib.hid (below_nx Hb2.out hb3)
    clear hd hb3 H4
    go_wp2_with fail
    go_returns
    exact ⟨⟨_, rfl, Hd.out⟩, Hb3.out⟩
end Go.Proofs.Ytkcpemkahkkcmaa
