/- BaseB23: several of our texts in one: ApKe ApK CiKv CiKc. -/
import Derived.Test.YtmpafidkpangeaaApKd
import Derived.Test.YtmpafidkpangeaaBaseB12
import Derived.Test.YtmpafidkpangeaaBaseB26
import Derived.Test.YtmpafidkpangeaaBaseB19
import Derived.Lib.SliceRun
import Derived.Test.YtmpafidkpangeaaBaseB09
import Derived.Test.YtmpafidkpangeaaBaseB22
import Derived.Test.YtmpafidkpangeaaBaseB18
import Derived.Test.YtmpafidkpangeaaBaseB07
import Derived.Test.YtmpafidkpangeaaBaseB24
import Derived.Test.YtmpafidkpangeaaCiN
namespace Go.Proofs.Ytmpafidkpangeaa
open Go.RowKit
attribute [local irreducible] World.cell?
set_option maxRecDepth 100000 in
set_option maxHeartbeats 1600000 in
theorem iclone (B : Nat) (v : Value) (l : List Dw) (w : World) (hv : DSl w B v l) (h0 : 0 < l.length) (hm : l.length ≤ 1048576) :
    Calls Try.prog 116 #[v] w fun e w' => ∃ r, e = .returned r ∧ DSl w' w.heap.size r l ∧ Below w.heap.size w w' := by
  obtain ⟨i0, hi, hz0, hz1, hz2⟩ := info_parts infoDw
  have qT : ∀ (w : World) (a : Option Addr) (n c n' c' : Nat), (binOp .eql 82 (.slice a n c) (.slice none n' c')).run Try.prog w = .ok (.bool a.isNone) w := fun w a n c n' c' => Lib.run_eql_slice_nil w _ _ a n c n' c' Try.underlying82
  obtain ⟨a, cap, rfl, hcap, hr⟩ := hv
  obtain ⟨g, rfl, hg, hrow⟩ := hr h0
  have Hsrc := Lib.hid (row_src (hrow.alloc (.cells #[] 120)))
  have Hown := Lib.hid (own_new (w := w) (n := w.heap.size) (t := 120) rfl)
  have Hp := Lib.hid (flat_plain l)
  have Hl := Lib.hid (flat_len l)
  clear hr hrow
  go_enter Try.func116, Try.ntmps116
  go_wp2_with (first
    | (at_builtin; refine wpList_append_own _ rfl _ _ 82 rfl w.heap.size 120 i0 (.agg #[.int .i64 0, .int .i64 0, .int .i64 0, .int .i64 0, .int .i64 0]) 5 40 Try.underlying82 hi hz0 hz1 hz2 rfl (by decide) _ _ _ rfl Hown.out ⟨g, 0, none⟩ l.length cap (flat l) rfl Hl.out Hsrc.out Hp.out ?d3 ?d4 ?d5 ?_))
  case d3 => unfold maxLen; omega
  case d4 => omega
  case d5 => first | omega | (simp; omega) | simp
  intro v' w4 hown' hgrow _
  have hown2 : w4.ownsRow w.heap.size 120 5 v' l.length (flat l) := by
    have h : w4.ownsRow w.heap.size 120 5 v' l.length ([] ++ flat l) := hown'
    rwa [List.nil_append] at h
  have Hs := Lib.hid (DSl.of_own hown2)
  have HB := Lib.hid (((Below.refl w.heap.size w).alloc (Nat.le_refl _) (.cells #[] 120)).grown hgrow (by simp) (fun q hq => by have := Hown.out.lt q hq; omega))
  clear hown' hown2 hgrow
  go_wp2_with fail
  go_ret
  exact ⟨_, rfl, Hs.out, HB.out⟩
set_option maxRecDepth 100000 in
set_option maxHeartbeats 3200000 in
theorem iapGs_yes (B : Nat) (a0 : Option Addr) (capg : Nat) (v : Value) (L : List Gt) (l : List Dw) (w : World) (hg : GsIn w w.heap.size a0 L) (hv : DSl w B v l) (hst : stB l = true) (hL : L.length ≤ 1048576) :
    Calls Try.prog 91 #[.slice a0 L.length capg, v] w fun e w' => (∃ r, e = .returned (.tuple #[r, .bool (agsB L l)]) ∧ DSl w' w.heap.size r (agsV L l)) ∧ Below w.heap.size w w' := by
  have hlen := stB_len hst
  have h2 := stB_iff.1 hst
  have hpos : 0 < l.length := by have := qc_len h2.2; omega
  have H1 := Lib.hid (ivalidSt B v l w hv (fun x hx => ok_eb (h2.1 x hx)) (by omega))
  have H2 := Lib.hid (fun W (h : DSl W B v l) => iclone B v l W h hpos (by omega))
  have H3 := Lib.hid (fun (g : Gt) (D : Nat) (u : Value) (o : List Dw) W (h : DSl W D u o) (he : ∀ x ∈ o, x.ok) (hm : o.length ≤ 1048576) => iapG D g u o W h (fun x hx => ok_eb (he x hx)) hm)
  have Hok := Lib.hid h2.1
  have Hv := Lib.hid hv
  rw [hst] at H1
  have HO := Lib.hid (show agsO L l = agsF L l by unfold agsO; rw [hst]; rfl)
  have HV := Lib.hid (show agsV L l = (agsO L l).getD [] from rfl)
  have HT := Lib.hid (show agsB L l = (agsO L l).isSome from rfl)
  generalize agsV L l = V at *
  generalize agsB L l = T at *
  generalize agsO L l = O at *
  have Hg := Lib.hid hg
  clear hst h2 hpos hg
  obtain ⟨av, capv, rfl, -, -⟩ := hv
  go_enter Try.func91, Try.ntmps91
  go_wp2_with fail
  refine (H1.out).mono ?_
  rintro e w1 ⟨rfl, hb1⟩
  have Hb1 := Lib.hid hb1
  have Hv1 := Lib.hid (Hv.out.below hb1)
  have hs1 := hb1.size
  clear hb1
  go_wp2_with fail
  refine (H2.out _ Hv1.out).mono ?_
  rintro e w2 ⟨u, rfl, hd2, hb2⟩
  have Hb2 := Lib.hid (below_nx Hb1.out hb2)
  have Hd2 := Lib.hid (hd2.mono hs1)
  have Hst := Lib.hid (show agsF (L.drop 0) l = O from HO.out.symm)
  clear hd2 hb2 H1 H2 HO
  go_wp2_with fail
  go_loopg [6, 18] L.length (fun m ov i wr => ∃ (j : Nat) (o : List Dw) (u' : Value), m = L.length - j ∧ j ≤ L.length ∧ i = .int .i64 j ∧ u' = ov ∧ o.length ≤ 16 ∧ Hid (∀ x ∈ o, x.ok) ∧ Hid (agsF (L.drop j) o = O) ∧ Hid (DSl wr w.heap.size u' o) ∧ Hid (Below w.heap.size w wr))
  case atStart => exact ⟨0, l, u, rfl, Nat.zero_le _, rfl, rfl, hlen, Hok, Hst, Hd2, Hb2⟩
  case round =>
    obtain ⟨j, o, u', rfl, hj, rfl, rfl, ho, Hok2, Hap, Hd, Hb⟩ := hrel
    have hsw := Hb.out.size
    by_cases hlt : j < L.length
    · obtain ⟨g, hx⟩ : ∃ g, L[j]? = some g := ⟨L[j], List.getElem?_eq_getElem hlt⟩
      obtain ⟨gg, off, rfl, hgB, hcl⟩ := (Hg.out.below Hb.out).2 (by omega)
      obtain ⟨c0, c1, c2, c3⟩ := hcl j g hx
      have hgl := Nat.lt_of_lt_of_le hgB hsw
      have HX := Lib.hid (heap_alloc_new wr (.cells #[.int .i64 g.k, .int .i64 g.a, .int .i64 g.b, .int .i64 g.c] 44))
      have Hb' := Lib.hid (show Below w.heap.size w (wr.alloc (.cells #[.int .i64 g.k, .int .i64 g.a, .int .i64 g.b, .int .i64 g.c] 44)) from Hb.out.alloc hsw _)
      have Hd' := Lib.hid (Hd.out.below ((Below.refl _ _).alloc (Nat.le_refl _) (.cells #[.int .i64 g.k, .int .i64 g.a, .int .i64 g.b, .int .i64 g.c] 44)))
      have hs' : w.heap.size ≤ (wr.alloc (.cells #[.int .i64 g.k, .int .i64 g.a, .int .i64 g.b, .int .i64 g.c] 44)).heap.size := by simp; omega
      have Hstep := Lib.hid (ags_step (o := o) hx)
      have hvl := agV_len g o
      have Hok3 := Lib.hid (agV_oks g o)
      have Hc := Lib.hid (H3.out g _ _ o (wr.alloc (.cells #[.int .i64 g.k, .int .i64 g.a, .int .i64 g.b, .int .i64 g.c] 44)) Hd'.out Hok2.out (by omega))
      have Hs' := Lib.hid hs'
      clear hx hcl hgB hs'
      generalize agV g o = o2 at *
      generalize agB g o = t at *
      go_wp2_with fail
      refine (Hc.out).mono ?_
      rintro e w4 ⟨⟨r, rfl, hd4⟩, hb4⟩
      have Hd4 := Lib.hid (hd4.mono Hs'.out)
      have Hb4 := Lib.hid (below_up Hb'.out hb4 Hs'.out)
      have hs4 := Hb4.out.size
      clear hd4 hb4 c0 c1 c2 c3 Hc hgl
      have h := Hstep.out.symm.trans Hap.out
      cases t with
      | true =>
        have Hn := Lib.hid (show agsF (L.drop (j + 1)) o2 = O from h)
        clear h
        go_wp2_with fail
        go_roundg (L.length - (j + 1))
        case measure => omega
        case rel => exact ⟨j + 1, o2, r, rfl, by omega, by go_num, rfl, by omega, Hok3, Hn, Hd4, Hb4⟩
      | false =>
        have hO : O = none := h.symm
        subst hO
        obtain rfl : V = [] := HV.out
        obtain rfl : T = false := HT.out
        clear h
        go_wp2_with fail
        go_returns
        exact ⟨⟨_, rfl, DSl.nil⟩, by have := Hb4.out; go_grown⟩
    · obtain rfl : j = L.length := by omega
      have hO := Hap.out
      rw [List.drop_of_length_le (Nat.le_refl _)] at hO
      obtain rfl : V = o := HV.out.trans (by rw [← hO]; rfl)
      obtain rfl : T = true := HT.out.trans (by rw [← hO]; rfl)
      clear hO
      go_wp2_with fail
      go_returns
      exact ⟨⟨_, rfl, Hd.out⟩, Hb.out⟩
set_option maxRecDepth 100000 in
set_option maxHeartbeats 1600000 in
theorem iapGs0 (B : Nat) (a0 : Option Addr) (cap : Nat) (v : Value) (L : List Gt) (l : List Dw) (w : World) (hg : GsIn w w.heap.size a0 L) (hv : DSl w B v l) (he : Eb l) (hm : l.length ≤ 1048576) (hn : L.length ≤ 1048576) : Calls Try.prog 91 #[.slice a0 L.length cap, v] w fun e w' => (∃ r, e = .returned (.tuple #[r, .bool (agsB L l)]) ∧ DSl w' w.heap.size r (agsV L l)) ∧ Below w.heap.size w w' := by
  cases hst : stB l with
  | true => exact iapGs_yes B a0 cap v L l w hg hv hst hn
  | false =>
    have h0 : agsO L l = none := by unfold agsO; rw [hst]; rfl
    rw [show agsB L l = false by unfold agsB; rw [h0]; rfl, show agsV L l = [] by unfold agsV; rw [h0]; rfl]
    have H1 := Lib.hid (ivalidSt B v l w hv he hm)
    rw [hst] at H1
    clear hst h0 hg he
    obtain ⟨av, capv, rfl, -, -⟩ := hv
    go_enter Try.func91, Try.ntmps91
    go_wp2_with fail
    refine (H1.out).mono ?_
    rintro e w1 ⟨rfl, hb1⟩
    have Hb1 := Lib.hid hb1
    have hs1 := hb1.size
    clear hb1
    go_wp2_with fail
    go_returns
    exact ⟨⟨_, rfl, DSl.nil⟩, by have := Hb1.out; go_grown⟩
theorem iapGs (B C : Nat) (vg v : Value) (L : List Gt) (l : List Dw) (w : World) (hg : gtE.Sl w C vg L) (hv : DSl w B v l) (he : Eb l) (hm : l.length ≤ 1048576) (hn : L.length ≤ 1048576) : Calls Try.prog 91 #[vg, v] w fun e w' => (∃ r, e = .returned (.tuple #[r, .bool (agsB L l)]) ∧ DSl w' w.heap.size r (agsV L l)) ∧ Below w.heap.size w w' := by
  obtain ⟨a, cap, rfl, h⟩ := GsIn.of_sl hg hn
  exact iapGs0 B a cap v L l w h hv he hm hn
end Go.Proofs.Ytmpafidkpangeaa
namespace Go.Proofs.Ytmpafidkpangeaa
open Go.RowKit
theorem col_id1 : ∀ k : Fin 2, col (idM 1) k.val = basisL 1 ((k.val : Nat) : Int) := by decide +kernel
theorem col_id2 : ∀ k : Fin 4, col (idM 2) k.val = basisL 2 ((k.val : Nat) : Int) := by decide +kernel
theorem col_id3 : ∀ k : Fin 8, col (idM 3) k.val = basisL 3 ((k.val : Nat) : Int) := by decide +kernel
theorem col_id4 : ∀ k : Fin 16, col (idM 4) k.val = basisL 4 ((k.val : Nat) : Int) := by decide +kernel
theorem col_id {n : Int} (h : 1 ≤ n ∧ n ≤ 4) {k : Nat} (hk : k < 2 ^ n.toNat) : col (idM n) k = basisL n (k : Int) := by
  rcases (show n = 1 ∨ n = 2 ∨ n = 3 ∨ n = 4 by omega) with rfl | rfl | rfl | rfl
  · exact col_id1 ⟨k, hk⟩
  · exact col_id2 ⟨k, hk⟩
  · exact col_id3 ⟨k, hk⟩
  · exact col_id4 ⟨k, hk⟩
theorem ag_basisB {g : Gt} {n : Int} (hg : gtB g n = true) {k : Nat} (hk : k < 2 ^ n.toNat) : agB g (basisL n (k : Int)) = true := by
  have h := gmL_rows hg (agV g (basisL n (k : Int))) (List.mem_map.2 ⟨k, List.mem_range.2 hk, rfl⟩)
  unfold agB
  unfold agV at h
  cases ho : agO g (basisL n (k : Int)) with
  | some o => rfl
  | none =>
    rw [ho] at h
    have : 0 < 2 ^ n.toNat := Nat.two_pow_pos _
    simp at h
    omega
theorem idM_rows {n : Int} (h : 1 ≤ n ∧ n ≤ 4) : ∀ r ∈ idM n, (idM n).length ≤ r.length := by
  rcases (show n = 1 ∨ n = 2 ∨ n = 3 ∨ n = 4 by omega) with rfl | rfl | rfl | rfl <;> decide +kernel
theorem basis_ok (n : Int) (h : 1 ≤ n ∧ n ≤ 4) : ∀ k : Nat, k < 2 ^ n.toNat → (∀ x ∈ basisL n (k : Int), x.ok) ∧ (basisL n (k : Int)).length ≤ 16 := by
  have h1 : ∀ k : Fin 2, (∀ x ∈ basisL 1 ((k.val : Nat) : Int), x.ok) ∧ (basisL 1 ((k.val : Nat) : Int)).length ≤ 16 := by decide +kernel
  have h2 : ∀ k : Fin 4, (∀ x ∈ basisL 2 ((k.val : Nat) : Int), x.ok) ∧ (basisL 2 ((k.val : Nat) : Int)).length ≤ 16 := by decide +kernel
  have h3 : ∀ k : Fin 8, (∀ x ∈ basisL 3 ((k.val : Nat) : Int), x.ok) ∧ (basisL 3 ((k.val : Nat) : Int)).length ≤ 16 := by decide +kernel
  have h4 : ∀ k : Fin 16, (∀ x ∈ basisL 4 ((k.val : Nat) : Int), x.ok) ∧ (basisL 4 ((k.val : Nat) : Int)).length ≤ 16 := by decide +kernel
  intro k hk
  rcases (show n = 1 ∨ n = 2 ∨ n = 3 ∨ n = 4 by omega) with rfl | rfl | rfl | rfl
  · exact h1 ⟨k, hk⟩
  · exact h2 ⟨k, hk⟩
  · exact h3 ⟨k, hk⟩
  · exact h4 ⟨k, hk⟩
theorem basisStK (n : Int) (h : 1 ≤ n ∧ n ≤ 4) : ∀ k : Nat, k < 2 ^ n.toNat → stB (basisL n (k : Int)) = true := by
  have h1 : ∀ k : Fin 2, stB (basisL 1 ((k.val : Nat) : Int)) = true := by decide +kernel
  have h2 : ∀ k : Fin 4, stB (basisL 2 ((k.val : Nat) : Int)) = true := by decide +kernel
  have h3 : ∀ k : Fin 8, stB (basisL 3 ((k.val : Nat) : Int)) = true := by decide +kernel
  have h4 : ∀ k : Fin 16, stB (basisL 4 ((k.val : Nat) : Int)) = true := by decide +kernel
  intro k hk
  rcases (show n = 1 ∨ n = 2 ∨ n = 3 ∨ n = 4 by omega) with rfl | rfl | rfl | rfl
  · exact h1 ⟨k, hk⟩
  · exact h2 ⟨k, hk⟩
  · exact h3 ⟨k, hk⟩
  · exact h4 ⟨k, hk⟩
/-- One gate: its matrix is the matrix of the list that holds it alone. -/
theorem ags_one {g : Gt} {l : List Dw} (hs : stB l = true) (hb : agB g l = true) : agsB [g] l = true ∧ agsV [g] l = agV g l := by
  have h : agsO [g] l = some (agV g l) := by
    unfold agsO
    rw [hs, if_pos rfl, agsF, if_pos hb, agsF]
  exact ⟨by unfold agsB; rw [h]; rfl, by unfold agsV; rw [h]; rfl⟩
theorem cir_one {g : Gt} {m : Nat} (hg : gtB g (m : Int) = true) : cirB [g] m = true ∧ cirM [g] m = gmM g (m : Int) := by
  have hn := (gtB_parts hg).1
  have hone : ∀ k : Nat, k < 2 ^ m → agsB [g] (basisL (m : Int) (k : Int)) = true ∧ agsV [g] (basisL (m : Int) (k : Int)) = agV g (basisL (m : Int) (k : Int)) := fun k hk =>
    ags_one (basisStK (m : Int) hn k (by rw [Int.toNat_natCast]; exact hk)) (ag_basisB hg (by rw [Int.toNat_natCast]; exact hk))
  have hB : cirB [g] m = true := by
    unfold cirB
    rw [List.all_eq_true]
    exact fun k hk => (hone k (List.mem_range.1 hk)).1
  refine ⟨hB, ?_⟩
  unfold cirM gmM
  rw [hB, if_pos rfl, if_pos hg]
  congr 1
  unfold cirC gmL
  rw [Int.toNat_natCast]
  exact List.map_congr_left fun k hk => (hone k (List.mem_range.1 hk)).2
attribute [local irreducible] World.cell?
set_option maxRecDepth 100000 in
set_option maxHeartbeats 1600000 in
theorem imatL1 (D C b : Nat) (vg c : Value) (L : List Gt) (l : List Dw) (w : World) (hx : w.heap[b]? = some (.cells #[vg] 24 (0, 0))) (hg : gtE.Sl w C vg L) (hc : DSl w D c l) (he : Eb l) (hm : l.length ≤ 1048576) (hn : L.length ≤ 1048576) :
    Calls Try.prog 90 #[c, .pointer (some ⟨b, 0, none⟩)] w fun e w' => (∃ r, e = .returned (.tuple #[r, .bool (agsB L l)]) ∧ DSl w' w.heap.size r (agsV L l)) ∧ Below w.heap.size w w' := by
  have H := Lib.hid (iapGs D C vg c L l w hg hc he hm hn)
  have c0 := cell_at hx 0 _ rfl
  have hgl := lt_of_block hx
  clear hx he hm hn
  generalize agsV L l = SL at *
  generalize agsB L l = SB at *
  obtain ⟨a', cap', rfl, -, -⟩ := hc
  obtain ⟨a2, cap2, rfl, -, -⟩ := hg
  go_enter Try.func90, Try.ntmps90
  go_wp2_with fail
  refine (H.out).mono ?_
  rintro e w1 ⟨⟨q, rfl, hd⟩, hb1⟩
  have Hd := Lib.hid hd
  have Hb1 := Lib.hid hb1
  clear hd hb1
  go_wp2_with fail
  go_returns
  exact ⟨⟨_, rfl, Hd.out⟩, Hb1.out⟩
set_option maxRecDepth 100000 in
set_option maxHeartbeats 3200000 in
theorem imatL (C : Nat) (vg : Value) (L : List Gt) (m : Nat) (w : World) (hg : gtE.Sl w C vg L) (h1 : 1 ≤ m) (h4 : m ≤ 4) (hL : L.length ≤ 1048576) : Calls Try.prog 54 #[vg, .int .i64 (m : Int)] w fun e w' => (∃ r, e = .returned (.tuple #[r, .bool (cirB L m)]) ∧ DSM w' w.heap.size w'.heap.size r (cirM L m)) ∧ Below w.heap.size w w' := by
  have hn : 1 ≤ (m : Int) ∧ (m : Int) ≤ 4 := by omega
  have HX := Lib.hid (heap_alloc_new w (.cells #[vg] 24))
  have Hb0 := Lib.hid (show Below w.heap.size w (w.alloc (.cells #[vg] 24)) by go_grown)
  have Hg := Lib.hid (hg.below Hb0.out)
  have c0 := cell_at HX.out 0 _ rfl
  have H2 := Lib.hid (fun W => iident (m : Int) W (by omega) (by omega))
  have hl : (idM (m : Int)).length = 2 ^ m := by rw [idM_len hn, Int.toNat_natCast]
  have eF : ∀ args w, (callFunc 90 args).run Try.prog w = .ok (.enter 90 args) w := Try.call90
  have h16 : (idM (m : Int)).length ≤ 16 := (idM_amps (m : Int)).1
  have H3 := Lib.hid (fun R S u W (h : DSM W R S u (idM (m : Int))) (hx : W.heap[w.heap.size]? = some (.cells #[vg] 24 (0, 0))) (hg : gtE.Sl W C vg L) =>
    imapC 90 #[.pointer (some ⟨w.heap.size, 0, none⟩)] eF R S u (idM (m : Int)) (fun k => agsB L (basisL (m : Int) (k : Int))) (fun k => agsV L (basisL (m : Int) (k : Int))) W h (idM_rows hn) (by omega)
      (fun k hk ht => by rw [hl] at hk ⊢; rw [agsV_len ht, basis_len h1 h4 hk])
      (fun k hk D c W' hW hc => by
        rw [hl] at hk
        rw [col_id hn (by rw [Int.toNat_natCast]; exact hk)] at hc
        have hk' : k < 2 ^ (m : Int).toNat := by rw [Int.toNat_natCast]; exact hk
        exact imatL1 D C w.heap.size vg c L (basisL (m : Int) (k : Int)) W' ((hW.block _ (lt_of_block hx)).trans hx) (hg.below hW) hc (fun x hx => ok_eb ((basis_ok (m : Int) hn k hk').1 x hx)) (by have := (basis_ok (m : Int) hn k hk').2; omega) hL))
  have hM : (if (List.range (idM (m : Int)).length).all (fun k => agsB L (basisL (m : Int) (k : Int))) = true then colsM (mapX (idM (m : Int)).length fun k => agsV L (basisL (m : Int) (k : Int))) else []) = cirM L m := by
    rw [hl]; rfl
  have hB : ((List.range (idM (m : Int)).length).all (fun k => agsB L (basisL (m : Int) (k : Int)))) = cirB L m := by
    rw [hl]; rfl
  rw [hM, hB] at H3
  clear hM hB hl h16 hn
  generalize cirM L m = SL at *
  generalize cirB L m = SB at *
  obtain ⟨a2, cap2, rfl, -, -⟩ := hg
  go_enter Try.func54, Try.ntmps54
  go_wp2_with fail
  refine (H2.out _).mono ?_
  rintro e w2 ⟨u, rfl, hd2, hb2⟩
  have H4 := Lib.hid (H3.out _ _ _ _ hd2 (below_blk hb2 (lt_of_block HX.out) HX.out) (Hg.out.below hb2))
  have Hb2 := Lib.hid (below_nx Hb0.out hb2)
  have hs2 := Hb2.out.size
  clear hb2 hd2 H3
  go_wp2_with fail
  refine (H4.out).mono ?_
  rintro e w3 ⟨⟨q, rfl, hd⟩, hb3⟩
  have Hd := Lib.hid (hd.mono (D := w.heap.size) (E := w3.heap.size) hs2 (Nat.le_refl _))
  have Hb3 := Lib.hid (below_nx Hb2.out hb3)
  clear hd hb3 H4
  go_wp2_with fail
  go_returns
  exact ⟨⟨_, rfl, Hd.out⟩, Hb3.out⟩
set_option maxRecDepth 100000 in
set_option maxHeartbeats 3200000 in
theorem imatG (g : Gt) (n : Int) (w : World) (h0 : -9223372036854775808 ≤ n) (h1 : n ≤ 9223372036854775807) : Calls Try.prog 27 #[(.agg #[.int .i64 g.k, .int .i64 g.a, .int .i64 g.b, .int .i64 g.c]), .int .i64 n] w fun e w' => (∃ r, e = .returned (.tuple #[r, .bool (gtB g n)]) ∧ DSM w' w.heap.size w'.heap.size r (gmM g n)) ∧ Below w.heap.size w w' := by
  have H1 := Lib.hid (fun W => ivalidG g n W h0 h1)
  have HX := Lib.hid (heap_alloc_new w (.cells #[.int .i64 g.k, .int .i64 g.a, .int .i64 g.b, .int .i64 g.c] 44))
  have Hb0 := Lib.hid (show Below w.heap.size w (w.alloc (.cells #[.int .i64 g.k, .int .i64 g.a, .int .i64 g.b, .int .i64 g.c] 44)) by go_grown)
  obtain ⟨c0, c1, c2, c3⟩ := blk_cells HX.out
  cases hg : gtB g n with
  | false =>
    rw [hg] at H1
    rw [show gmM g n = [] from if_neg (by rw [hg]; decide)]
    clear hg
    go_enter Try.func27, Try.ntmps27
    go_wp2_with fail
    refine (H1.out _).mono ?_
    rintro e w1 ⟨rfl, hb1⟩
    have Hb1 := Lib.hid (below_nx Hb0.out hb1)
    clear hb1 c0 c1 c2 c3
    go_wp2_with fail
    go_returns
    exact ⟨⟨_, rfl, DSM.nil⟩, by have := Hb1.out; go_grown⟩
  | true =>
    rw [hg] at H1
    have hn := (gtB_parts hg).1
    obtain ⟨m, rfl⟩ : ∃ m : Nat, n = (m : Int) := ⟨n.toNat, by omega⟩
    obtain ⟨hcB, hcM⟩ := cir_one hg
    have H2 := Lib.hid (fun C vg W (h : gtE.Sl W C vg [g]) => imatL C vg [g] m W h (by omega) (by omega) (by simp))
    rw [hcB, hcM] at H2
    clear hcB hcM hg hn
    generalize gmM g (m : Int) = SL at *
    go_enter Try.func27, Try.ntmps27
    go_wp2_with fail
    refine (H1.out _).mono ?_
    rintro e w1 ⟨rfl, hb1⟩
    have HX1 := Lib.hid (below_blk hb1 (lt_of_block HX.out) HX.out)
    have Hb1 := Lib.hid (below_nx Hb0.out hb1)
    have hs1 := Hb1.out.size
    clear hb1 c0 c1 c2 c3
    obtain ⟨c0, c1, c2, c3⟩ := blk_cells HX1.out
    have hxl := lt_of_block HX1.out
    have Hb2 := Lib.hid (show Below w.heap.size w (w1.alloc (.cells #[.int .i64 g.k, .int .i64 g.a, .int .i64 g.b, .int .i64 g.c] 44)) from Hb1.out.alloc hs1 _)
    have Hrow := Lib.hid (show gtE.Sl (w1.alloc (.cells #[.int .i64 g.k, .int .i64 g.a, .int .i64 g.b, .int .i64 g.c] 44)) w1.heap.size (.slice (some ⟨w1.heap.size, 0, none⟩) 1 1) [g] from Enc.Sl.mk rfl (Nat.le_refl _) (Nat.le_refl _) ⟨_, heap_alloc_new w1 _, rfl⟩)
    go_wp2_with fail
    refine (H2.out _ _ _ Hrow.out).mono ?_
    rintro e w3 ⟨⟨q, rfl, hd⟩, hb3⟩
    have Hd := Lib.hid (hd.mono (D := w.heap.size) (E := w3.heap.size) Hb2.out.size (Nat.le_refl _))
    have Hb3 := Lib.hid (below_nx Hb2.out hb3)
    clear hd hb3 c0 c1 c2 c3 hxl
    go_wp2_with fail
    go_returns
    exact ⟨⟨_, rfl, Hd.out⟩, Hb3.out⟩
end Go.Proofs.Ytmpafidkpangeaa
namespace Go.Proofs.Ytmpafidkpangeaa
open Go.RowKit
attribute [local irreducible] World.cell?
set_option maxRecDepth 100000 in
set_option maxHeartbeats 3200000 in
theorem ivalidC (B : Nat) (n : Int) (v : Value) (l : List Gt) (w : World) (hv : gtE.Sl w B v l) (hm : l.length ≤ 1048576) (n0 : -9223372036854775808 ≤ n) (n1 : n ≤ 9223372036854775807) :
    Calls Try.prog 16 #[.agg #[.int .i64 n, v]] w fun e w' => e = .returned (.bool (ciB n l)) ∧ Below w.heap.size w w' := by
  obtain ⟨a, cap, rfl, hcap, hr⟩ := hv
  have Hr := Lib.hid hr
  clear hr
  have HC0 := Lib.hid (heap_alloc_new w (.cells #[.int .i64 n, .slice a l.length cap] 26))
  have Hb0 := Lib.hid (show Below w.heap.size w (w.alloc (.cells #[.int .i64 n, .slice a l.length cap] 26)) by go_grown)
  obtain ⟨p0, p1⟩ := blk_cells2 HC0.out
  have hCl := lt_of_block HC0.out
  obtain ⟨T, hT⟩ : ∃ T, T = ciB n l := ⟨_, rfl⟩
  rw [← hT]
  have HT := Lib.hid (hT.trans (show ciB n l = (l.all (fun g => gtB g n) && (decide (1 ≤ n ∧ n ≤ 4) && decide (l.length ≤ 60))) from rfl))
  clear hT
  by_cases hn : 1 ≤ n ∧ n ≤ 4
  · have Hq := Lib.hid (fun w => iisq_yes n w hn)
    have HG := Lib.hid (fun x W => ivalidG x n W n0 n1)
    have HT1 := Lib.hid (HT.out.trans (by rw [decide_eq_true hn, Bool.true_and]))
    clear hn HT
    by_cases h60 : l.length ≤ 60
    · have HT2 := Lib.hid (HT1.out.trans (by rw [decide_eq_true h60, Bool.and_true]))
      clear HT1
      go_enter Try.func16, Try.ntmps16
      go_wp2_with (first | (go_at_call 50; refine (Hq.out _).mono ?_; rintro e wR ⟨rfl, rfl⟩))
      go_loopg [18] l.length (fun m i wr => ∃ j : Nat, m = l.length - j ∧ j ≤ l.length ∧ i = .int .i64 j ∧ Hid ((l.take j).all (fun g => gtB g n) = true) ∧ Hid (wr.heap[w.heap.size]? = some (.cells #[.int .i64 n, .slice a l.length cap] 26 (0, 0))) ∧ Hid (Below w.heap.size w wr))
      case atStart => exact ⟨0, rfl, Nat.zero_le _, rfl, rfl, HC0, Hb0⟩
      case round =>
        obtain ⟨j, rfl, hj, rfl, Hyes, HC, Hb⟩ := hrel
        clear p0 p1 hCl
        obtain ⟨p0, p1⟩ := blk_cells2 HC.out
        have hCl := lt_of_block HC.out
        have hsw := Hb.out.size
        by_cases hlt : j < l.length
        · obtain ⟨g, rfl, _, hrow⟩ := Hr.out (by omega)
          obtain ⟨x, hx⟩ : ∃ x, l[j]? = some x := ⟨l[j], List.getElem?_eq_getElem hlt⟩
          have r1 := hrow.below Hb.out hrow.lt
          obtain ⟨c0, c1, c2, c3⟩ := GRow.cells r1 hx
          have hgl := r1.lt
          have HX := Lib.hid (heap_alloc_new wr (.cells #[.int .i64 x.k, .int .i64 x.a, .int .i64 x.b, .int .i64 x.c] 44))
          have HC2 := Lib.hid (alloc_blk (.cells #[.int .i64 x.k, .int .i64 x.a, .int .i64 x.b, .int .i64 x.c] 44) HC.out)
          obtain ⟨q0, q1⟩ := blk_cells2 HC2.out
          have Hb' := Lib.hid (show Below w.heap.size w (wr.alloc (.cells #[.int .i64 x.k, .int .i64 x.a, .int .i64 x.b, .int .i64 x.c] 44)) from Hb.out.alloc hsw _)
          have Hat := Lib.hid (all_take (p := fun g => gtB g n) hx Hyes.out)
          have Hno := Lib.hid (fun h => all_no (p := fun g => gtB g n) hx h)
          have Hc := Lib.hid (fun W => HG.out x W)
          clear hrow r1 hx
          generalize gtB x n = t at *
          go_wp2_with fail
          refine (Hc.out _).mono ?_
          rintro e w4 ⟨rfl, hb4⟩
          have HC4 := Lib.hid (below_blk hb4 (lt_of_block HC2.out) HC2.out)
          have Hb4 := Lib.hid (below_nx Hb'.out hb4)
          have hs4 := Hb4.out.size
          clear hb4 c0 c1 c2 c3 hgl
          cases t with
          | true =>
            clear Hno
            go_wp2_with fail
            go_roundg (l.length - (j + 1))
            case measure => omega
            case rel => exact ⟨j + 1, rfl, by omega, by go_num, Hat, HC4, Hb4⟩
          | false =>
            obtain rfl : T = false := HT2.out.trans (Hno.out rfl)
            clear Hno
            go_wp2_with fail
            go_ret
            exact ⟨rfl, Hb4.out⟩
        · obtain rfl : j = l.length := by omega
          have hall := Hyes.out
          rw [List.take_length] at hall
          obtain rfl : T = true := HT2.out.trans hall
          clear hall
          go_wp2_with fail
          go_ret
          exact ⟨rfl, Hb.out⟩
    · obtain rfl : T = false := HT1.out.trans (by rw [decide_eq_false h60, Bool.and_false])
      have h61 : ¬ l.length ≤ 60 := h60
      clear HT1 h60 HG
      go_enter Try.func16, Try.ntmps16
      go_wp2_with (first | (go_at_call 50; refine (Hq.out _).mono ?_; rintro e wR ⟨rfl, rfl⟩))
      go_ret
      exact ⟨rfl, Hb0.out⟩
  · have Hq := Lib.hid (fun w => iisq_no n w hn n0 n1)
    obtain rfl : T = false := HT.out.trans (by rw [decide_eq_false hn, Bool.false_and, Bool.and_false])
    clear hn HT
    go_enter Try.func16, Try.ntmps16
    go_wp2_with (first | (go_at_call 50; refine (Hq.out _).mono ?_; rintro e wR ⟨rfl, rfl⟩))
    go_ret
    exact ⟨rfl, Hb0.out⟩
set_option maxRecDepth 100000 in
set_option maxHeartbeats 3200000 in
theorem icirc (B : Nat) (n : Int) (v : Value) (l : List Gt) (w : World) (hv : gtE.Sl w B v l) (hm : l.length ≤ 1048576) (n0 : -9223372036854775808 ≤ n) (n1 : n ≤ 9223372036854775807) :
    Calls Try.prog 19 #[.agg #[.int .i64 n, v]] w fun e w' => (∃ r, e = .returned (.tuple #[r, .bool (ccB n l)]) ∧ DSM w' w.heap.size w'.heap.size r (ccM n l)) ∧ Below w.heap.size w w' := by
  have HX := Lib.hid (heap_alloc_new w (.cells #[.int .i64 n, v] 26))
  have Hb0 := Lib.hid (show Below w.heap.size w (w.alloc (.cells #[.int .i64 n, v] 26)) by go_grown)
  have Hv := Lib.hid (hv.below Hb0.out)
  obtain ⟨c0, c1⟩ := blk_cells2 HX.out
  have hCl := lt_of_block HX.out
  have H1 := Lib.hid (fun W (h : gtE.Sl W B v l) => ivalidC B n v l W h hm n0 n1)
  obtain ⟨pa, ca, hpa, -, -⟩ := id hv
  clear hv
  cases hc : ciB n l with
  | false =>
    rw [hc] at H1
    rw [show ccB n l = false by unfold ccB; rw [hc]; rfl, show ccM n l = [] by unfold ccM; rw [hc]; rfl]
    clear hc
    subst hpa
    go_enter Try.func19, Try.ntmps19
    go_wp2_with fail
    refine (H1.out _ Hv.out).mono ?_
    rintro e w1 ⟨rfl, hb1⟩
    have Hb1 := Lib.hid (below_nx Hb0.out hb1)
    clear hb1 c0 c1 hCl
    go_wp2_with fail
    go_returns
    exact ⟨⟨_, rfl, DSM.nil⟩, by have := Hb1.out; go_grown⟩
  | true =>
    rw [hc] at H1
    have hn : 1 ≤ n ∧ n ≤ 4 := by
      have h := hc
      unfold ciB at h
      rw [Bool.and_eq_true, Bool.and_eq_true] at h
      exact of_decide_eq_true h.2.1
    obtain ⟨m, rfl⟩ : ∃ m : Nat, n = (m : Int) := ⟨n.toNat, by omega⟩
    have H2 := Lib.hid (fun W (h : gtE.Sl W B v l) => imatL B v l m W h (by omega) (by omega) hm)
    rw [show ccB (m : Int) l = cirB l m by unfold ccB; rw [hc, Int.toNat_natCast]; rfl, show ccM (m : Int) l = cirM l m by unfold ccM; rw [hc, Int.toNat_natCast]; rfl]
    generalize cirM l m = SL at *
    generalize cirB l m = SB at *
    clear hc hn
    subst hpa
    go_enter Try.func19, Try.ntmps19
    go_wp2_with fail
    refine (H1.out _ Hv.out).mono ?_
    rintro e w1 ⟨rfl, hb1⟩
    have HX1 := Lib.hid (below_blk hb1 (lt_of_block HX.out) HX.out)
    have Hv1 := Lib.hid (Hv.out.below hb1)
    have Hb1 := Lib.hid (below_nx Hb0.out hb1)
    clear hb1 c0 c1 hCl
    obtain ⟨c0, c1⟩ := blk_cells2 HX1.out
    have hCl := lt_of_block HX1.out
    go_wp2_with fail
    refine (H2.out _ Hv1.out).mono ?_
    rintro e w3 ⟨⟨q, rfl, hd⟩, hb3⟩
    have Hd := Lib.hid (hd.mono (D := w.heap.size) (E := w3.heap.size) Hb1.out.size (Nat.le_refl _))
    have Hb3 := Lib.hid (below_nx Hb1.out hb3)
    clear hd hb3 c0 c1 hCl
    go_wp2_with fail
    go_returns
    exact ⟨⟨_, rfl, Hd.out⟩, Hb3.out⟩
end Go.Proofs.Ytmpafidkpangeaa
namespace Go.Proofs.Ytmpafidkpangeaa
open Go.RowKit
attribute [local irreducible] World.cell?
set_option maxRecDepth 100000 in
set_option maxHeartbeats 12800000 in
theorem iconcat (A C : Nat) (n m : Int) (va vb : Value) (L M : List Gt) (w : World) (hva : gtE.Sl w A va L) (hvb : gtE.Sl w C vb M) (hLM : L.length + M.length ≤ 1048576) (n0 : -9223372036854775808 ≤ n) (n1 : n ≤ 9223372036854775807) :
    Calls Try.prog 18 #[.agg #[.int .i64 n, va], .agg #[.int .i64 m, vb]] w fun e w' => (∃ r, e = .returned (.tuple #[.agg #[.int .i64 (cjN n L m M), r], .bool (cjB n L m M)]) ∧ gtE.Sl w' w.heap.size r (cjL n L m M)) ∧ Below w.heap.size w w' := by
  unfold cjN cjL
  obtain ⟨T, hT⟩ : ∃ T, T = cjB n L m M := ⟨_, rfl⟩
  rw [← hT]
  have HT := Lib.hid (hT.trans (show cjB n L m M = (ciB n L && (ciB m M && (decide (n = m) && ciB n (L ++ M)))) from rfl))
  clear hT
  have HVa := Lib.hid hva
  have HVb := Lib.hid hvb
  have H1 := Lib.hid (fun W (h : gtE.Sl W A va L) => ivalidC A n va L W h (by omega) n0 n1)
  have H2 := Lib.hid (fun W (h : gtE.Sl W C vb M) (m0 : -9223372036854775808 ≤ m) (m1 : m ≤ 9223372036854775807) => ivalidC C m vb M W h (by omega) m0 m1)
  obtain ⟨pa, ca, hpa, -, -⟩ := id hva
  obtain ⟨pb, cb, hpb, -, -⟩ := id hvb
  clear hva hvb
  subst hpa
  subst hpb
  have Hb0 := Lib.hid (show Below w.heap.size w (((w.alloc (.cells #[.int .i64 n, .slice pa L.length ca] 26)).alloc (.cells #[.int .i64 m, .slice pb M.length cb] 26)).alloc (.cells #[.int .i64 0, .slice none 0 0] 26)) by go_grown)
  have HX := Lib.hid (show (((w.alloc (.cells #[.int .i64 n, .slice pa L.length ca] 26)).alloc (.cells #[.int .i64 m, .slice pb M.length cb] 26)).alloc (.cells #[.int .i64 0, .slice none 0 0] 26)).heap[w.heap.size]? = some (.cells #[.int .i64 n, .slice pa L.length ca] 26) by exact alloc_blk _ (alloc_blk _ (heap_alloc_new w _)))
  have HY := Lib.hid (show (((w.alloc (.cells #[.int .i64 n, .slice pa L.length ca] 26)).alloc (.cells #[.int .i64 m, .slice pb M.length cb] 26)).alloc (.cells #[.int .i64 0, .slice none 0 0] 26)).heap[w.heap.size + 1]? = some (.cells #[.int .i64 m, .slice pb M.length cb] 26) by
    have h := heap_alloc_new (w.alloc (.cells #[.int .i64 n, .slice pa L.length ca] 26)) (.cells #[.int .i64 m, .slice pb M.length cb] 26)
    rw [show (w.alloc (.cells #[.int .i64 n, .slice pa L.length ca] 26)).heap.size = w.heap.size + 1 by simp] at h
    exact alloc_blk _ h)
  have HR := Lib.hid (show (((w.alloc (.cells #[.int .i64 n, .slice pa L.length ca] 26)).alloc (.cells #[.int .i64 m, .slice pb M.length cb] 26)).alloc (.cells #[.int .i64 0, .slice none 0 0] 26)).heap[w.heap.size + 2]? = some (.cells #[.int .i64 0, .slice none 0 0] 26) by
    have h := heap_alloc_new ((w.alloc (.cells #[.int .i64 n, .slice pa L.length ca] 26)).alloc (.cells #[.int .i64 m, .slice pb M.length cb] 26)) (.cells #[.int .i64 0, .slice none 0 0] 26)
    rw [show ((w.alloc (.cells #[.int .i64 n, .slice pa L.length ca] 26)).alloc (.cells #[.int .i64 m, .slice pb M.length cb] 26)).heap.size = w.heap.size + 2 by simp] at h
    exact h)
  obtain ⟨c0, c1⟩ := blk_cells2 HX.out
  have hxl := lt_of_block HX.out
  obtain ⟨d0, d1⟩ := blk_cells2 HY.out
  have hyl := lt_of_block HY.out
  by_cases hnm : n = m
  · subst hnm
    have hd : (n != n) = false := by simp
    have HTn := Lib.hid (HT.out.trans (by rw [decide_eq_true rfl, Bool.true_and]))
    clear HT
    have H2 := Lib.hid (fun W h => H2.out W h n0 n1)
    cases h1 : ciB n L with
    | false =>
      obtain rfl : T = false := HTn.out.trans (by rw [h1]; rfl)
      rw [h1] at H1
      clear h1 HTn
      go_enter Try.func18, Try.ntmps18
      go_wp2_with fail
      refine (H1.out _ (HVa.out.below Hb0.out)).mono ?_
      rintro e w1 ⟨rfl, hb1⟩
      have HX := Lib.hid (below_blk hb1 (lt_of_block HX.out) HX.out)
      have HY := Lib.hid (below_blk hb1 (lt_of_block HY.out) HY.out)
      have HR := Lib.hid (below_blk hb1 (lt_of_block HR.out) HR.out)
      have Hb0 := Lib.hid (below_nx Hb0.out hb1)
      clear hb1
      clear c0 c1 d0 d1 hxl hyl
      obtain ⟨c0, c1⟩ := blk_cells2 HX.out
      have hxl := lt_of_block HX.out
      obtain ⟨d0, d1⟩ := blk_cells2 HY.out
      have hyl := lt_of_block HY.out
      obtain ⟨r0, r1⟩ := blk_cells2 HR.out
      have fR := fun o => free_at HR.out o
      have hrl := lt_of_block HR.out
      have hs1 := Hb0.out.size
      go_wp2_with fail
      obtain ⟨k0, k1⟩ := blk_cells2 (set2_at (u0 := .int .i64 0) (u1 := .slice none 0 0) HR.out)
      refine bodyPost_ret (v := .tuple #[.agg #[.int .i64 0, .slice none 0 0], .bool false]) (by simp only [results, Try.results18]; simp [go_sem, k0, k1]) rfl ⟨⟨_, rfl, Enc.Sl.nil⟩, ?_⟩
      have := Hb0.out
      go_grown
    | true =>
      rw [h1] at H1
      cases h2 : ciB n M with
      | false =>
        obtain rfl : T = false := HTn.out.trans (by rw [h1, h2]; rfl)
        rw [h2] at H2
        clear h1 h2 HTn
        go_enter Try.func18, Try.ntmps18
        go_wp2_with fail
        refine (H1.out _ (HVa.out.below Hb0.out)).mono ?_
        rintro e w1 ⟨rfl, hb1⟩
        have HX := Lib.hid (below_blk hb1 (lt_of_block HX.out) HX.out)
        have HY := Lib.hid (below_blk hb1 (lt_of_block HY.out) HY.out)
        have HR := Lib.hid (below_blk hb1 (lt_of_block HR.out) HR.out)
        have Hb0 := Lib.hid (below_nx Hb0.out hb1)
        clear hb1
        clear c0 c1 d0 d1 hxl hyl
        obtain ⟨c0, c1⟩ := blk_cells2 HX.out
        have hxl := lt_of_block HX.out
        obtain ⟨d0, d1⟩ := blk_cells2 HY.out
        have hyl := lt_of_block HY.out
        go_wp2_with fail
        refine (H2.out _ (HVb.out.below Hb0.out)).mono ?_
        rintro e w2 ⟨rfl, hb2⟩
        have HX := Lib.hid (below_blk hb2 (lt_of_block HX.out) HX.out)
        have HY := Lib.hid (below_blk hb2 (lt_of_block HY.out) HY.out)
        have HR := Lib.hid (below_blk hb2 (lt_of_block HR.out) HR.out)
        have Hb0 := Lib.hid (below_nx Hb0.out hb2)
        clear hb2
        clear c0 c1 d0 d1 hxl hyl
        obtain ⟨c0, c1⟩ := blk_cells2 HX.out
        have hxl := lt_of_block HX.out
        obtain ⟨d0, d1⟩ := blk_cells2 HY.out
        have hyl := lt_of_block HY.out
        obtain ⟨r0, r1⟩ := blk_cells2 HR.out
        have fR := fun o => free_at HR.out o
        have hrl := lt_of_block HR.out
        have hs1 := Hb0.out.size
        go_wp2_with fail
        obtain ⟨k0, k1⟩ := blk_cells2 (set2_at (u0 := .int .i64 0) (u1 := .slice none 0 0) HR.out)
        refine bodyPost_ret (v := .tuple #[.agg #[.int .i64 0, .slice none 0 0], .bool false]) (by simp only [results, Try.results18]; simp [go_sem, k0, k1]) rfl ⟨⟨_, rfl, Enc.Sl.nil⟩, ?_⟩
        have := Hb0.out
        go_grown
      | true =>
        rw [h2] at H2
        have HTm := Lib.hid (HTn.out.trans (by rw [h1, h2, Bool.true_and, Bool.true_and]))
        clear HTn
        have hcat : ciB n (L ++ M) = decide (L.length + M.length ≤ 60) := by
          unfold ciB at h1 h2 ⊢
          rw [Bool.and_eq_true, Bool.and_eq_true] at h1 h2
          rw [List.all_append, h1.1, h2.1, h1.2.1, List.length_append]
          rfl
        have HTk := Lib.hid (HTm.out.trans hcat)
        clear HTm hcat h1 h2
        by_cases h60 : L.length + M.length ≤ 60
        · obtain rfl : T = true := HTk.out.trans (decide_eq_true h60)
          clear HTk
          go_enter Try.func18, Try.ntmps18
          go_wp2_with fail
          refine (H1.out _ (HVa.out.below Hb0.out)).mono ?_
          rintro e w1 ⟨rfl, hb1⟩
          have HX := Lib.hid (below_blk hb1 (lt_of_block HX.out) HX.out)
          have HY := Lib.hid (below_blk hb1 (lt_of_block HY.out) HY.out)
          have HR := Lib.hid (below_blk hb1 (lt_of_block HR.out) HR.out)
          have Hb0 := Lib.hid (below_nx Hb0.out hb1)
          clear hb1
          clear c0 c1 d0 d1 hxl hyl
          obtain ⟨c0, c1⟩ := blk_cells2 HX.out
          have hxl := lt_of_block HX.out
          obtain ⟨d0, d1⟩ := blk_cells2 HY.out
          have hyl := lt_of_block HY.out
          go_wp2_with fail
          refine (H2.out _ (HVb.out.below Hb0.out)).mono ?_
          rintro e w2 ⟨rfl, hb2⟩
          have HX := Lib.hid (below_blk hb2 (lt_of_block HX.out) HX.out)
          have HY := Lib.hid (below_blk hb2 (lt_of_block HY.out) HY.out)
          have HR := Lib.hid (below_blk hb2 (lt_of_block HR.out) HR.out)
          have Hb0 := Lib.hid (below_nx Hb0.out hb2)
          clear hb2
          clear c0 c1 d0 d1 hxl hyl
          obtain ⟨c0, c1⟩ := blk_cells2 HX.out
          have hxl := lt_of_block HX.out
          obtain ⟨d0, d1⟩ := blk_cells2 HY.out
          have hyl := lt_of_block HY.out
          have hs2 := Hb0.out.size
          have hrl := lt_of_block HR.out
          have hlHX := lt_of_block HX.out
          have HX := Lib.hid (alloc_blk (.cells #[.int .i64 n, .slice none 0 0] 68) HX.out)
          have hlHY := lt_of_block HY.out
          have HY := Lib.hid (alloc_blk (.cells #[.int .i64 n, .slice none 0 0] 68) HY.out)
          have hlHR := lt_of_block HR.out
          have HR := Lib.hid (alloc_blk (.cells #[.int .i64 n, .slice none 0 0] 68) HR.out)
          have HO := Lib.hid (heap_alloc_new w2 (.cells #[.int .i64 n, .slice none 0 0] 68))
          have Hb0 := Lib.hid (Hb0.out.alloc hs2 (.cells #[.int .i64 n, .slice none 0 0] 68))
          have Hown := Lib.hid (World.ownsRow_nil (w2.alloc (.cells #[.int .i64 n, .slice none 0 0] 68)) (w2.heap.size + 1) 44 4)
          have HA := Lib.hid (fun (v : Value) (k : Nat) (xs : List Value) W h1 h2 h3 h4 => iadd A w2.heap.size n v (.slice pa L.length ca) k xs L W h1 h2 h3 h4)
          have HB := Lib.hid (fun (v : Value) (k : Nat) (xs : List Value) W h1 h2 h3 h4 => iadd C w2.heap.size n v (.slice pb M.length cb) k xs M W h1 h2 h3 h4)
          have HF := Lib.hid (fun v p k c W h => ifinished n v p k c W h)
          clear H1 H2
          go_wp2_with fail
          refine (HA.out (.slice none 0 0) (0) ([]) _ HO.out Hown.out (HVa.out.below Hb0.out) (by omega)).mono ?_
          rintro e w4 ⟨rfl, ⟨vw4, hOw4, hownw4⟩, hbw4, hzw4, -⟩
          have HX := Lib.hid (below_blk hbw4 (by omega) HX.out)
          have HY := Lib.hid (below_blk hbw4 (by omega) HY.out)
          have HR := Lib.hid (below_blk hbw4 (by omega) HR.out)
          have Hb0 := Lib.hid (Hb0.out.trans (hbw4.mono hs2))
          have HO := Lib.hid hOw4
          have Hown := Lib.hid hownw4
          obtain ⟨pw4, kw4, hvw4⟩ : ∃ p c, vw4 = .slice p (0 + L.length) c := by
            rcases hownw4.2 with ⟨h, h'⟩ | ⟨g, cap, cur, h, _⟩
            · exact ⟨none, 0, by rw [h', h]⟩
            · exact ⟨_, _, h⟩
          clear hOw4 hownw4 hbw4 c0 c1 d0 d1 hxl hyl
          subst hvw4
          obtain ⟨c0, c1⟩ := blk_cells2 HX.out
          have hxl := lt_of_block HX.out
          obtain ⟨d0, d1⟩ := blk_cells2 HY.out
          have hyl := lt_of_block HY.out
          obtain ⟨o0, o1⟩ := blk_cells2 HO.out
          have hol := lt_of_block HO.out
          go_wp2_with fail
          refine (HB.out (.slice pw4 (0 + L.length) kw4) (0 + L.length) ([] ++ gtE.flat L) _ HO.out Hown.out (HVb.out.below Hb0.out) (by omega)).mono ?_
          rintro e w5 ⟨rfl, ⟨vw5, hOw5, hownw5⟩, hbw5, hzw5, -⟩
          have HX := Lib.hid (below_blk hbw5 (by omega) HX.out)
          have HY := Lib.hid (below_blk hbw5 (by omega) HY.out)
          have HR := Lib.hid (below_blk hbw5 (by omega) HR.out)
          have Hb0 := Lib.hid (Hb0.out.trans (hbw5.mono hs2))
          have HO := Lib.hid hOw5
          have Hown := Lib.hid hownw5
          obtain ⟨pw5, kw5, hvw5⟩ : ∃ p c, vw5 = .slice p (0 + L.length + M.length) c := by
            rcases hownw5.2 with ⟨h, h'⟩ | ⟨g, cap, cur, h, _⟩
            · exact ⟨none, 0, by rw [h', h]⟩
            · exact ⟨_, _, h⟩
          clear hOw5 hownw5 hbw5 c0 c1 d0 d1 hxl hyl o0 o1 hol
          subst hvw5
          obtain ⟨c0, c1⟩ := blk_cells2 HX.out
          have hxl := lt_of_block HX.out
          obtain ⟨d0, d1⟩ := blk_cells2 HY.out
          have hyl := lt_of_block HY.out
          obtain ⟨o0, o1⟩ := blk_cells2 HO.out
          have hol := lt_of_block HO.out
          go_wp2_with fail
          refine (HF.out _ _ _ _ _ rfl).mono ?_
          rintro e w6 ⟨rfl, hb6⟩
          have HR := Lib.hid (below_blk hb6 (lt_of_block HR.out) HR.out)
          have hown6 := row_below Hown.out hb6
          rw [List.nil_append, ← gtE.flat_app, Nat.zero_add, ← List.length_append] at hown6
          have hsl := Enc.Sl.of_own (E := gtE) hown6
          have Hsl := Lib.hid hsl
          have Hb0 := Lib.hid (below_nx Hb0.out hb6)
          clear hb6 hown6 hsl c0 c1 d0 d1 hxl hyl o0 o1 hol
          obtain ⟨r0, r1⟩ := blk_cells2 HR.out
          have fR := fun o => free_at HR.out o
          have hrl6 := lt_of_block HR.out
          have hs6 := Hb0.out.size
          go_wp2_with fail
          obtain ⟨k0, k1⟩ := blk_cells2 (set2_at (u0 := .int .i64 n) (u1 := .slice pw5 (L.length + M.length) kw5) (b := w.heap.size + 1 + 1) HR.out)
          refine bodyPost_ret (v := .tuple #[.agg #[.int .i64 n, .slice pw5 (L.length + M.length) kw5], .bool true]) (by simp only [results, Try.results18]; simp [go_sem, k0, k1]) rfl ⟨⟨_, rfl, ?_⟩, ?_⟩
          · have h := (sl_set1 (off := 1) (u := .slice pw5 (L.length + M.length) kw5) (sl_set1 (off := 0) (u := .int .i64 n) Hsl.out (show w.heap.size + 1 + 1 < w2.heap.size + 1 by omega)) (show w.heap.size + 1 + 1 < w2.heap.size + 1 by omega)).mono (show w.heap.size ≤ w2.heap.size + 1 by omega)
            rw [List.length_append] at h; exact h
          · have := Hb0.out
            go_grown
        · obtain rfl : T = false := HTk.out.trans (decide_eq_false h60)
          clear HTk
          have h61 : 60 < L.length + M.length := by omega
          clear h60
          go_enter Try.func18, Try.ntmps18
          go_wp2_with fail
          refine (H1.out _ (HVa.out.below Hb0.out)).mono ?_
          rintro e w1 ⟨rfl, hb1⟩
          have HX := Lib.hid (below_blk hb1 (lt_of_block HX.out) HX.out)
          have HY := Lib.hid (below_blk hb1 (lt_of_block HY.out) HY.out)
          have HR := Lib.hid (below_blk hb1 (lt_of_block HR.out) HR.out)
          have Hb0 := Lib.hid (below_nx Hb0.out hb1)
          clear hb1
          clear c0 c1 d0 d1 hxl hyl
          obtain ⟨c0, c1⟩ := blk_cells2 HX.out
          have hxl := lt_of_block HX.out
          obtain ⟨d0, d1⟩ := blk_cells2 HY.out
          have hyl := lt_of_block HY.out
          go_wp2_with fail
          refine (H2.out _ (HVb.out.below Hb0.out)).mono ?_
          rintro e w2 ⟨rfl, hb2⟩
          have HX := Lib.hid (below_blk hb2 (lt_of_block HX.out) HX.out)
          have HY := Lib.hid (below_blk hb2 (lt_of_block HY.out) HY.out)
          have HR := Lib.hid (below_blk hb2 (lt_of_block HR.out) HR.out)
          have Hb0 := Lib.hid (below_nx Hb0.out hb2)
          clear hb2
          clear c0 c1 d0 d1 hxl hyl
          obtain ⟨c0, c1⟩ := blk_cells2 HX.out
          have hxl := lt_of_block HX.out
          obtain ⟨d0, d1⟩ := blk_cells2 HY.out
          have hyl := lt_of_block HY.out
          obtain ⟨r0, r1⟩ := blk_cells2 HR.out
          have fR := fun o => free_at HR.out o
          have hrl := lt_of_block HR.out
          have hs1 := Hb0.out.size
          go_wp2_with fail
          obtain ⟨k0, k1⟩ := blk_cells2 (set2_at (u0 := .int .i64 0) (u1 := .slice none 0 0) HR.out)
          refine bodyPost_ret (v := .tuple #[.agg #[.int .i64 0, .slice none 0 0], .bool false]) (by simp only [results, Try.results18]; simp [go_sem, k0, k1]) rfl ⟨⟨_, rfl, Enc.Sl.nil⟩, ?_⟩
          have := Hb0.out
          go_grown
  · obtain rfl : T = false := HT.out.trans (by rw [decide_eq_false hnm, Bool.false_and, Bool.and_false, Bool.and_false])
    have hd : (n != m) = true := by simpa using hnm
    clear hnm HT
    go_enter Try.func18, Try.ntmps18
    obtain ⟨r0, r1⟩ := blk_cells2 HR.out
    have fR := fun o => free_at HR.out o
    have hrl := lt_of_block HR.out
    have hs1 := Hb0.out.size
    go_wp2_with fail
    obtain ⟨k0, k1⟩ := blk_cells2 (set2_at (u0 := .int .i64 0) (u1 := .slice none 0 0) HR.out)
    refine bodyPost_ret (v := .tuple #[.agg #[.int .i64 0, .slice none 0 0], .bool false]) (by simp only [results, Try.results18]; simp [go_sem]) rfl ⟨⟨_, rfl, Enc.Sl.nil⟩, ?_⟩
    have := Hb0.out
    go_grown
end Go.Proofs.Ytmpafidkpangeaa
