/- BaseB17: several of our texts in one: ApKe ApK CiKv CpR CpU CpV. -/
import Derived.Test.YtmpafidkpangeaaGreatApKd
import Derived.Test.YtmpafidkpangeaaGreatBaseB07
import Derived.Test.YtmpafidkpangeaaGreatBaseB15
import Derived.Test.YtmpafidkpangeaaGreatBaseB13
import Derived.Lib.SliceRun
import Derived.Test.YtmpafidkpangeaaGreatBaseB16
import Derived.Test.YtmpafidkpangeaaGreatBaseB12
import Derived.Test.YtmpafidkpangeaaGreatBaseB22
import Derived.Test.YtmpafidkpangeaaGreatBaseB23
import Derived.Test.YtmpafidkpangeaaGreatBaseB21
namespace Go.Proofs.YtmpafidkpangeaaGreat
open Go.RowKit
attribute [local irreducible] World.cell?
set_option maxRecDepth 100000 in
set_option maxHeartbeats 1600000 in
theorem iclone (B : Nat) (v : Value) (l : List Dw) (w : World) (hv : DSl w B v l) (h0 : 0 < l.length) (hm : l.length ≤ 1048576) :
    Calls Tryz.prog 149 #[v] w fun e w' => ∃ r, e = .returned r ∧ DSl w' w.heap.size r l ∧ Below w.heap.size w w' := by
  obtain ⟨i0, hi, hz0, hz1, hz2⟩ := info_parts infoDw
  have qT : ∀ (w : World) (a : Option Addr) (n c n' c' : Nat), (binOp .eql 36 (.slice a n c) (.slice none n' c')).run Tryz.prog w = .ok (.bool a.isNone) w := fun w a n c n' c' => Lib.run_eql_slice_nil w _ _ a n c n' c' Tryz.underlying36
  obtain ⟨a, cap, rfl, hcap, hr⟩ := hv
  obtain ⟨g, rfl, hg, hrow⟩ := hr h0
  have Hsrc := Lib.hid (row_src (hrow.alloc (.cells #[] 84)))
  have Hown := Lib.hid (own_new (w := w) (n := w.heap.size) (t := 84) rfl)
  have Hp := Lib.hid (flat_plain l)
  have Hl := Lib.hid (flat_len l)
  clear hr hrow
  go_enter Tryz.func149, Tryz.ntmps149
  go_wp2_with (first
    | (at_builtin; refine wpList_append_own _ rfl _ _ 36 rfl w.heap.size 84 i0 (.agg #[.int .i64 0, .int .i64 0, .int .i64 0, .int .i64 0, .int .i64 0]) 5 40 Tryz.underlying36 hi hz0 hz1 hz2 rfl (by decide) _ _ _ rfl Hown.out ⟨g, 0, none⟩ l.length cap (flat l) rfl Hl.out Hsrc.out Hp.out ?d3 ?d4 ?d5 ?_))
  case d3 => unfold maxLen; omega
  case d4 => omega
  case d5 => first | omega | (simp; omega) | simp
  intro v' w4 hown' hgrow _
  have hown2 : w4.ownsRow w.heap.size 84 5 v' l.length (flat l) := by
    have h : w4.ownsRow w.heap.size 84 5 v' l.length ([] ++ flat l) := hown'
    rwa [List.nil_append] at h
  have Hs := Lib.hid (DSl.of_own hown2)
  have HB := Lib.hid (((Below.refl w.heap.size w).alloc (Nat.le_refl _) (.cells #[] 84)).grown hgrow (by simp) (fun q hq => by have := Hown.out.lt q hq; omega))
  clear hown' hown2 hgrow
  go_wp2_with fail
  go_ret
  exact ⟨_, rfl, Hs.out, HB.out⟩
set_option maxRecDepth 100000 in
set_option maxHeartbeats 3200000 in
theorem iapGs_yes (B : Nat) (a0 : Option Addr) (capg : Nat) (v : Value) (L : List Gt) (l : List Dw) (w : World) (hg : GsIn w w.heap.size a0 L) (hv : DSl w B v l) (hst : stB l = true) (hL : L.length ≤ 1048576) :
    Calls Tryz.prog 96 #[.slice a0 L.length capg, v] w fun e w' => (∃ r, e = .returned (.tuple #[r, .bool (agsB L l)]) ∧ DSl w' w.heap.size r (agsV L l)) ∧ Below w.heap.size w w' := by
  have hlen := stB_len hst
  have h2 := stB_iff.1 hst
  have hpos : 0 < l.length := by have := qc_len h2.2; omega
  have H1 := Lib.hid (ivalidSt B v l w hv (fun x hx => ok_eb (h2.1 x hx)) (by omega))
  have H2 := Lib.hid (fun W (h : DSl W B v l) => iclone B v l W h hpos (by omega))
  have H3 := Lib.hid (fun (g : Gt) (D : Nat) (u : Value) (o : List Dw) W (h : DSl W D u o) (he : ∀ x ∈ o, x.ok) (hm : o.length ≤ 1048576) => iapG D g u o W h (fun x hx => ok_eb (he x hx)) hm)
  have Hok := Lib.hid h2.1
  have Hv := Lib.hid hv
  rw [hst] at H1
  have HO := Lib.hid (show agsO L l = agsF L l by unfold agsO; rw [hst]; rfl)
  have HV := Lib.hid (show agsV L l = (agsO L l).getD [] from rfl)
  have HT := Lib.hid (show agsB L l = (agsO L l).isSome from rfl)
  generalize agsV L l = V at *
  generalize agsB L l = T at *
  generalize agsO L l = O at *
  have Hg := Lib.hid hg
  clear hst h2 hpos hg
  obtain ⟨av, capv, rfl, -, -⟩ := hv
  go_enter Tryz.func96, Tryz.ntmps96
  go_wp2_with fail
  refine (H1.out).mono ?_
  rintro e w1 ⟨rfl, hb1⟩
  have Hb1 := Lib.hid hb1
  have Hv1 := Lib.hid (Hv.out.below hb1)
  have hs1 := hb1.size
  clear hb1
  go_wp2_with fail
  refine (H2.out _ Hv1.out).mono ?_
  rintro e w2 ⟨u, rfl, hd2, hb2⟩
  have Hb2 := Lib.hid (below_nx Hb1.out hb2)
  have Hd2 := Lib.hid (hd2.mono hs1)
  have Hst := Lib.hid (show agsF (L.drop 0) l = O from HO.out.symm)
  clear hd2 hb2 H1 H2 HO
  go_wp2_with fail
  go_loopg [6, 18] L.length (fun m ov i wr => ∃ (j : Nat) (o : List Dw) (u' : Value), m = L.length - j ∧ j ≤ L.length ∧ i = .int .i64 j ∧ u' = ov ∧ o.length ≤ 16 ∧ Hid (∀ x ∈ o, x.ok) ∧ Hid (agsF (L.drop j) o = O) ∧ Hid (DSl wr w.heap.size u' o) ∧ Hid (Below w.heap.size w wr))
  case atStart => exact ⟨0, l, u, rfl, Nat.zero_le _, rfl, rfl, hlen, Hok, Hst, Hd2, Hb2⟩
  case round =>
    obtain ⟨j, o, u', rfl, hj, rfl, rfl, ho, Hok2, Hap, Hd, Hb⟩ := hrel
    have hsw := Hb.out.size
    by_cases hlt : j < L.length
    · obtain ⟨g, hx⟩ : ∃ g, L[j]? = some g := ⟨L[j], List.getElem?_eq_getElem hlt⟩
      obtain ⟨gg, off, rfl, hgB, hcl⟩ := (Hg.out.below Hb.out).2 (by omega)
      obtain ⟨c0, c1, c2, c3⟩ := hcl j g hx
      have hgl := Nat.lt_of_lt_of_le hgB hsw
      have HX := Lib.hid (heap_alloc_new wr (.cells #[.int .i64 g.k, .int .i64 g.a, .int .i64 g.b, .int .i64 g.c] 35))
      have Hb' := Lib.hid (show Below w.heap.size w (wr.alloc (.cells #[.int .i64 g.k, .int .i64 g.a, .int .i64 g.b, .int .i64 g.c] 35)) from Hb.out.alloc hsw _)
      have Hd' := Lib.hid (Hd.out.below ((Below.refl _ _).alloc (Nat.le_refl _) (.cells #[.int .i64 g.k, .int .i64 g.a, .int .i64 g.b, .int .i64 g.c] 35)))
      have hs' : w.heap.size ≤ (wr.alloc (.cells #[.int .i64 g.k, .int .i64 g.a, .int .i64 g.b, .int .i64 g.c] 35)).heap.size := by simp; omega
      have Hstep := Lib.hid (ags_step (o := o) hx)
      have hvl := agV_len g o
      have Hok3 := Lib.hid (agV_oks g o)
      have Hc := Lib.hid (H3.out g _ _ o (wr.alloc (.cells #[.int .i64 g.k, .int .i64 g.a, .int .i64 g.b, .int .i64 g.c] 35)) Hd'.out Hok2.out (by omega))
      have Hs' := Lib.hid hs'
      clear hx hcl hgB hs'
      generalize agV g o = o2 at *
      generalize agB g o = t at *
      go_wp2_with fail
      refine (Hc.out).mono ?_
      rintro e w4 ⟨⟨r, rfl, hd4⟩, hb4⟩
      have Hd4 := Lib.hid (hd4.mono Hs'.out)
      have Hb4 := Lib.hid (below_up Hb'.out hb4 Hs'.out)
      have hs4 := Hb4.out.size
      clear hd4 hb4 c0 c1 c2 c3 Hc hgl
      have h := Hstep.out.symm.trans Hap.out
      cases t with
      | true =>
        have Hn := Lib.hid (show agsF (L.drop (j + 1)) o2 = O from h)
        clear h
        go_wp2_with fail
        go_roundg (L.length - (j + 1))
        case measure => omega
        case rel => exact ⟨j + 1, o2, r, rfl, by omega, by go_num, rfl, by omega, Hok3, Hn, Hd4, Hb4⟩
      | false =>
        have hO : O = none := h.symm
        subst hO
        obtain rfl : V = [] := HV.out
        obtain rfl : T = false := HT.out
        clear h
        go_wp2_with fail
        go_returns
        exact ⟨⟨_, rfl, DSl.nil⟩, by have := Hb4.out; go_grown⟩
    · obtain rfl : j = L.length := by omega
      have hO := Hap.out
      rw [List.drop_of_length_le (Nat.le_refl _)] at hO
      obtain rfl : V = o := HV.out.trans (by rw [← hO]; rfl)
      obtain rfl : T = true := HT.out.trans (by rw [← hO]; rfl)
      clear hO
      go_wp2_with fail
      go_returns
      exact ⟨⟨_, rfl, Hd.out⟩, Hb.out⟩
set_option maxRecDepth 100000 in
set_option maxHeartbeats 1600000 in
theorem iapGs0 (B : Nat) (a0 : Option Addr) (cap : Nat) (v : Value) (L : List Gt) (l : List Dw) (w : World) (hg : GsIn w w.heap.size a0 L) (hv : DSl w B v l) (he : Eb l) (hm : l.length ≤ 1048576) (hn : L.length ≤ 1048576) : Calls Tryz.prog 96 #[.slice a0 L.length cap, v] w fun e w' => (∃ r, e = .returned (.tuple #[r, .bool (agsB L l)]) ∧ DSl w' w.heap.size r (agsV L l)) ∧ Below w.heap.size w w' := by
  cases hst : stB l with
  | true => exact iapGs_yes B a0 cap v L l w hg hv hst hn
  | false =>
    have h0 : agsO L l = none := by unfold agsO; rw [hst]; rfl
    rw [show agsB L l = false by unfold agsB; rw [h0]; rfl, show agsV L l = [] by unfold agsV; rw [h0]; rfl]
    have H1 := Lib.hid (ivalidSt B v l w hv he hm)
    rw [hst] at H1
    clear hst h0 hg he
    obtain ⟨av, capv, rfl, -, -⟩ := hv
    go_enter Tryz.func96, Tryz.ntmps96
    go_wp2_with fail
    refine (H1.out).mono ?_
    rintro e w1 ⟨rfl, hb1⟩
    have Hb1 := Lib.hid hb1
    have hs1 := hb1.size
    clear hb1
    go_wp2_with fail
    go_returns
    exact ⟨⟨_, rfl, DSl.nil⟩, by have := Hb1.out; go_grown⟩
theorem iapGs (B C : Nat) (vg v : Value) (L : List Gt) (l : List Dw) (w : World) (hg : gtE.Sl w C vg L) (hv : DSl w B v l) (he : Eb l) (hm : l.length ≤ 1048576) (hn : L.length ≤ 1048576) : Calls Tryz.prog 96 #[vg, v] w fun e w' => (∃ r, e = .returned (.tuple #[r, .bool (agsB L l)]) ∧ DSl w' w.heap.size r (agsV L l)) ∧ Below w.heap.size w w' := by
  obtain ⟨a, cap, rfl, h⟩ := GsIn.of_sl hg hn
  exact iapGs0 B a cap v L l w h hv he hm hn
end Go.Proofs.YtmpafidkpangeaaGreat
namespace Go.Proofs.YtmpafidkpangeaaGreat
open Go.RowKit
theorem col_id1 : ∀ k : Fin 2, col (idM 1) k.val = basisL 1 ((k.val : Nat) : Int) := by decide +kernel
theorem col_id2 : ∀ k : Fin 4, col (idM 2) k.val = basisL 2 ((k.val : Nat) : Int) := by decide +kernel
theorem col_id3 : ∀ k : Fin 8, col (idM 3) k.val = basisL 3 ((k.val : Nat) : Int) := by decide +kernel
theorem col_id4 : ∀ k : Fin 16, col (idM 4) k.val = basisL 4 ((k.val : Nat) : Int) := by decide +kernel
theorem col_id {n : Int} (h : 1 ≤ n ∧ n ≤ 4) {k : Nat} (hk : k < 2 ^ n.toNat) : col (idM n) k = basisL n (k : Int) := by
  rcases (show n = 1 ∨ n = 2 ∨ n = 3 ∨ n = 4 by omega) with rfl | rfl | rfl | rfl
  · exact col_id1 ⟨k, hk⟩
  · exact col_id2 ⟨k, hk⟩
  · exact col_id3 ⟨k, hk⟩
  · exact col_id4 ⟨k, hk⟩
theorem ag_basisB {g : Gt} {n : Int} (hg : gtB g n = true) {k : Nat} (hk : k < 2 ^ n.toNat) : agB g (basisL n (k : Int)) = true := by
  have h := gmL_rows hg (agV g (basisL n (k : Int))) (List.mem_map.2 ⟨k, List.mem_range.2 hk, rfl⟩)
  unfold agB
  unfold agV at h
  cases ho : agO g (basisL n (k : Int)) with
  | some o => rfl
  | none =>
    rw [ho] at h
    have : 0 < 2 ^ n.toNat := Nat.two_pow_pos _
    simp at h
    omega
theorem idM_rows {n : Int} (h : 1 ≤ n ∧ n ≤ 4) : ∀ r ∈ idM n, (idM n).length ≤ r.length := by
  rcases (show n = 1 ∨ n = 2 ∨ n = 3 ∨ n = 4 by omega) with rfl | rfl | rfl | rfl <;> decide +kernel
theorem basis_ok (n : Int) (h : 1 ≤ n ∧ n ≤ 4) : ∀ k : Nat, k < 2 ^ n.toNat → (∀ x ∈ basisL n (k : Int), x.ok) ∧ (basisL n (k : Int)).length ≤ 16 := by
  have h1 : ∀ k : Fin 2, (∀ x ∈ basisL 1 ((k.val : Nat) : Int), x.ok) ∧ (basisL 1 ((k.val : Nat) : Int)).length ≤ 16 := by decide +kernel
  have h2 : ∀ k : Fin 4, (∀ x ∈ basisL 2 ((k.val : Nat) : Int), x.ok) ∧ (basisL 2 ((k.val : Nat) : Int)).length ≤ 16 := by decide +kernel
  have h3 : ∀ k : Fin 8, (∀ x ∈ basisL 3 ((k.val : Nat) : Int), x.ok) ∧ (basisL 3 ((k.val : Nat) : Int)).length ≤ 16 := by decide +kernel
  have h4 : ∀ k : Fin 16, (∀ x ∈ basisL 4 ((k.val : Nat) : Int), x.ok) ∧ (basisL 4 ((k.val : Nat) : Int)).length ≤ 16 := by decide +kernel
  intro k hk
  rcases (show n = 1 ∨ n = 2 ∨ n = 3 ∨ n = 4 by omega) with rfl | rfl | rfl | rfl
  · exact h1 ⟨k, hk⟩
  · exact h2 ⟨k, hk⟩
  · exact h3 ⟨k, hk⟩
  · exact h4 ⟨k, hk⟩
theorem basisStK (n : Int) (h : 1 ≤ n ∧ n ≤ 4) : ∀ k : Nat, k < 2 ^ n.toNat → stB (basisL n (k : Int)) = true := by
  have h1 : ∀ k : Fin 2, stB (basisL 1 ((k.val : Nat) : Int)) = true := by decide +kernel
  have h2 : ∀ k : Fin 4, stB (basisL 2 ((k.val : Nat) : Int)) = true := by decide +kernel
  have h3 : ∀ k : Fin 8, stB (basisL 3 ((k.val : Nat) : Int)) = true := by decide +kernel
  have h4 : ∀ k : Fin 16, stB (basisL 4 ((k.val : Nat) : Int)) = true := by decide +kernel
  intro k hk
  rcases (show n = 1 ∨ n = 2 ∨ n = 3 ∨ n = 4 by omega) with rfl | rfl | rfl | rfl
  · exact h1 ⟨k, hk⟩
  · exact h2 ⟨k, hk⟩
  · exact h3 ⟨k, hk⟩
  · exact h4 ⟨k, hk⟩
/-- One gate: its matrix is the matrix of the list that holds it alone. -/
theorem ags_one {g : Gt} {l : List Dw} (hs : stB l = true) (hb : agB g l = true) : agsB [g] l = true ∧ agsV [g] l = agV g l := by
  have h : agsO [g] l = some (agV g l) := by
    unfold agsO
    rw [hs, if_pos rfl, agsF, if_pos hb, agsF]
  exact ⟨by unfold agsB; rw [h]; rfl, by unfold agsV; rw [h]; rfl⟩
theorem cir_one {g : Gt} {m : Nat} (hg : gtB g (m : Int) = true) : cirB [g] m = true ∧ cirM [g] m = gmM g (m : Int) := by
  have hn := (gtB_parts hg).1
  have hone : ∀ k : Nat, k < 2 ^ m → agsB [g] (basisL (m : Int) (k : Int)) = true ∧ agsV [g] (basisL (m : Int) (k : Int)) = agV g (basisL (m : Int) (k : Int)) := fun k hk =>
    ags_one (basisStK (m : Int) hn k (by rw [Int.toNat_natCast]; exact hk)) (ag_basisB hg (by rw [Int.toNat_natCast]; exact hk))
  have hB : cirB [g] m = true := by
    unfold cirB
    rw [List.all_eq_true]
    exact fun k hk => (hone k (List.mem_range.1 hk)).1
  refine ⟨hB, ?_⟩
  unfold cirM gmM
  rw [hB, if_pos rfl, if_pos hg]
  congr 1
  unfold cirC gmL
  rw [Int.toNat_natCast]
  exact List.map_congr_left fun k hk => (hone k (List.mem_range.1 hk)).2
attribute [local irreducible] World.cell?
set_option maxRecDepth 100000 in
set_option maxHeartbeats 1600000 in
theorem imatL1 (D C b : Nat) (vg c : Value) (L : List Gt) (l : List Dw) (w : World) (hx : w.heap[b]? = some (.cells #[vg] 24 (0, 0))) (hg : gtE.Sl w C vg L) (hc : DSl w D c l) (he : Eb l) (hm : l.length ≤ 1048576) (hn : L.length ≤ 1048576) :
    Calls Tryz.prog 95 #[c, .pointer (some ⟨b, 0, none⟩)] w fun e w' => (∃ r, e = .returned (.tuple #[r, .bool (agsB L l)]) ∧ DSl w' w.heap.size r (agsV L l)) ∧ Below w.heap.size w w' := by
  have H := Lib.hid (iapGs D C vg c L l w hg hc he hm hn)
  have c0 := cell_at hx 0 _ rfl
  have hgl := lt_of_block hx
  clear hx he hm hn
  generalize agsV L l = SL at *
  generalize agsB L l = SB at *
  obtain ⟨a', cap', rfl, -, -⟩ := hc
  obtain ⟨a2, cap2, rfl, -, -⟩ := hg
  go_enter Tryz.func95, Tryz.ntmps95
  go_wp2_with fail
  refine (H.out).mono ?_
  rintro e w1 ⟨⟨q, rfl, hd⟩, hb1⟩
  have Hd := Lib.hid hd
  have Hb1 := Lib.hid hb1
  clear hd hb1
  go_wp2_with fail
  go_returns
  exact ⟨⟨_, rfl, Hd.out⟩, Hb1.out⟩
set_option maxRecDepth 100000 in
set_option maxHeartbeats 3200000 in
theorem imatL (C : Nat) (vg : Value) (L : List Gt) (m : Nat) (w : World) (hg : gtE.Sl w C vg L) (h1 : 1 ≤ m) (h4 : m ≤ 4) (hL : L.length ≤ 1048576) : Calls Tryz.prog 39 #[vg, .int .i64 (m : Int)] w fun e w' => (∃ r, e = .returned (.tuple #[r, .bool (cirB L m)]) ∧ DSM w' w.heap.size w'.heap.size r (cirM L m)) ∧ Below w.heap.size w w' := by
  have hn : 1 ≤ (m : Int) ∧ (m : Int) ≤ 4 := by omega
  have HX := Lib.hid (heap_alloc_new w (.cells #[vg] 24))
  have Hb0 := Lib.hid (show Below w.heap.size w (w.alloc (.cells #[vg] 24)) by go_grown)
  have Hg := Lib.hid (hg.below Hb0.out)
  have c0 := cell_at HX.out 0 _ rfl
  have H2 := Lib.hid (fun W => iident (m : Int) W (by omega) (by omega))
  have hl : (idM (m : Int)).length = 2 ^ m := by rw [idM_len hn, Int.toNat_natCast]
  have eF : ∀ args w, (callFunc 95 args).run Tryz.prog w = .ok (.enter 95 args) w := Tryz.call95
  have h16 : (idM (m : Int)).length ≤ 16 := (idM_amps (m : Int)).1
  have H3 := Lib.hid (fun R S u W (h : DSM W R S u (idM (m : Int))) (hx : W.heap[w.heap.size]? = some (.cells #[vg] 24 (0, 0))) (hg : gtE.Sl W C vg L) =>
    imapC 95 #[.pointer (some ⟨w.heap.size, 0, none⟩)] eF R S u (idM (m : Int)) (fun k => agsB L (basisL (m : Int) (k : Int))) (fun k => agsV L (basisL (m : Int) (k : Int))) W h (idM_rows hn) (by omega)
      (fun k hk ht => by rw [hl] at hk ⊢; rw [agsV_len ht, basis_len h1 h4 hk])
      (fun k hk D c W' hW hc => by
        rw [hl] at hk
        rw [col_id hn (by rw [Int.toNat_natCast]; exact hk)] at hc
        have hk' : k < 2 ^ (m : Int).toNat := by rw [Int.toNat_natCast]; exact hk
        exact imatL1 D C w.heap.size vg c L (basisL (m : Int) (k : Int)) W' ((hW.block _ (lt_of_block hx)).trans hx) (hg.below hW) hc (fun x hx => ok_eb ((basis_ok (m : Int) hn k hk').1 x hx)) (by have := (basis_ok (m : Int) hn k hk').2; omega) hL))
  have hM : (if (List.range (idM (m : Int)).length).all (fun k => agsB L (basisL (m : Int) (k : Int))) = true then colsM (mapX (idM (m : Int)).length fun k => agsV L (basisL (m : Int) (k : Int))) else []) = cirM L m := by
    rw [hl]; rfl
  have hB : ((List.range (idM (m : Int)).length).all (fun k => agsB L (basisL (m : Int) (k : Int)))) = cirB L m := by
    rw [hl]; rfl
  rw [hM, hB] at H3
  clear hM hB hl h16 hn
  generalize cirM L m = SL at *
  generalize cirB L m = SB at *
  obtain ⟨a2, cap2, rfl, -, -⟩ := hg
  go_enter Tryz.func39, Tryz.ntmps39
  go_wp2_with fail
  refine (H2.out _).mono ?_
  rintro e w2 ⟨u, rfl, hd2, hb2⟩
  have H4 := Lib.hid (H3.out _ _ _ _ hd2 (below_blk hb2 (lt_of_block HX.out) HX.out) (Hg.out.below hb2))
  have Hb2 := Lib.hid (below_nx Hb0.out hb2)
  have hs2 := Hb2.out.size
  clear hb2 hd2 H3
  go_wp2_with fail
  refine (H4.out).mono ?_
  rintro e w3 ⟨⟨q, rfl, hd⟩, hb3⟩
  have Hd := Lib.hid (hd.mono (D := w.heap.size) (E := w3.heap.size) hs2 (Nat.le_refl _))
  have Hb3 := Lib.hid (below_nx Hb2.out hb3)
  clear hd hb3 H4
  go_wp2_with fail
  go_returns
  exact ⟨⟨_, rfl, Hd.out⟩, Hb3.out⟩
set_option maxRecDepth 100000 in
set_option maxHeartbeats 3200000 in
theorem imatG (g : Gt) (n : Int) (w : World) (h0 : -9223372036854775808 ≤ n) (h1 : n ≤ 9223372036854775807) : Calls Tryz.prog 20 #[(.agg #[.int .i64 g.k, .int .i64 g.a, .int .i64 g.b, .int .i64 g.c]), .int .i64 n] w fun e w' => (∃ r, e = .returned (.tuple #[r, .bool (gtB g n)]) ∧ DSM w' w.heap.size w'.heap.size r (gmM g n)) ∧ Below w.heap.size w w' := by
  have H1 := Lib.hid (fun W => ivalidG g n W h0 h1)
  have HX := Lib.hid (heap_alloc_new w (.cells #[.int .i64 g.k, .int .i64 g.a, .int .i64 g.b, .int .i64 g.c] 35))
  have Hb0 := Lib.hid (show Below w.heap.size w (w.alloc (.cells #[.int .i64 g.k, .int .i64 g.a, .int .i64 g.b, .int .i64 g.c] 35)) by go_grown)
  obtain ⟨c0, c1, c2, c3⟩ := blk_cells HX.out
  cases hg : gtB g n with
  | false =>
    rw [hg] at H1
    rw [show gmM g n = [] from if_neg (by rw [hg]; decide)]
    clear hg
    go_enter Tryz.func20, Tryz.ntmps20
    go_wp2_with fail
    refine (H1.out _).mono ?_
    rintro e w1 ⟨rfl, hb1⟩
    have Hb1 := Lib.hid (below_nx Hb0.out hb1)
    clear hb1 c0 c1 c2 c3
    go_wp2_with fail
    go_returns
    exact ⟨⟨_, rfl, DSM.nil⟩, by have := Hb1.out; go_grown⟩
  | true =>
    rw [hg] at H1
    have hn := (gtB_parts hg).1
    obtain ⟨m, rfl⟩ : ∃ m : Nat, n = (m : Int) := ⟨n.toNat, by omega⟩
    obtain ⟨hcB, hcM⟩ := cir_one hg
    have H2 := Lib.hid (fun C vg W (h : gtE.Sl W C vg [g]) => imatL C vg [g] m W h (by omega) (by omega) (by simp))
    rw [hcB, hcM] at H2
    clear hcB hcM hg hn
    generalize gmM g (m : Int) = SL at *
    go_enter Tryz.func20, Tryz.ntmps20
    go_wp2_with fail
    refine (H1.out _).mono ?_
    rintro e w1 ⟨rfl, hb1⟩
    have HX1 := Lib.hid (below_blk hb1 (lt_of_block HX.out) HX.out)
    have Hb1 := Lib.hid (below_nx Hb0.out hb1)
    have hs1 := Hb1.out.size
    clear hb1 c0 c1 c2 c3
    obtain ⟨c0, c1, c2, c3⟩ := blk_cells HX1.out
    have hxl := lt_of_block HX1.out
    have Hb2 := Lib.hid (show Below w.heap.size w (w1.alloc (.cells #[.int .i64 g.k, .int .i64 g.a, .int .i64 g.b, .int .i64 g.c] 35)) from Hb1.out.alloc hs1 _)
    have Hrow := Lib.hid (show gtE.Sl (w1.alloc (.cells #[.int .i64 g.k, .int .i64 g.a, .int .i64 g.b, .int .i64 g.c] 35)) w1.heap.size (.slice (some ⟨w1.heap.size, 0, none⟩) 1 1) [g] from Enc.Sl.mk rfl (Nat.le_refl _) (Nat.le_refl _) ⟨_, heap_alloc_new w1 _, rfl⟩)
    go_wp2_with fail
    refine (H2.out _ _ _ Hrow.out).mono ?_
    rintro e w3 ⟨⟨q, rfl, hd⟩, hb3⟩
    have Hd := Lib.hid (hd.mono (D := w.heap.size) (E := w3.heap.size) Hb2.out.size (Nat.le_refl _))
    have Hb3 := Lib.hid (below_nx Hb2.out hb3)
    clear hd hb3 c0 c1 c2 c3 hxl
    go_wp2_with fail
    go_returns
    exact ⟨⟨_, rfl, Hd.out⟩, Hb3.out⟩
end Go.Proofs.YtmpafidkpangeaaGreat
namespace Go.Proofs.YtmpafidkpangeaaGreat
open Go.RowKit
attribute [local irreducible] World.cell?
set_option maxRecDepth 100000 in
set_option maxHeartbeats 3200000 in
theorem ivalidC (B : Nat) (n : Int) (v : Value) (l : List Gt) (w : World) (hv : gtE.Sl w B v l) (hm : l.length ≤ 1048576) (n0 : -9223372036854775808 ≤ n) (n1 : n ≤ 9223372036854775807) :
    Calls Tryz.prog 38 #[.agg #[.int .i64 n, v]] w fun e w' => e = .returned (.bool (ciB n l)) ∧ Below w.heap.size w w' := by
  obtain ⟨a, cap, rfl, hcap, hr⟩ := hv
  have Hr := Lib.hid hr
  clear hr
  have HC0 := Lib.hid (heap_alloc_new w (.cells #[.int .i64 n, .slice a l.length cap] 26))
  have Hb0 := Lib.hid (show Below w.heap.size w (w.alloc (.cells #[.int .i64 n, .slice a l.length cap] 26)) by go_grown)
  obtain ⟨p0, p1⟩ := blk_cells2 HC0.out
  have hCl := lt_of_block HC0.out
  obtain ⟨T, hT⟩ : ∃ T, T = ciB n l := ⟨_, rfl⟩
  rw [← hT]
  have HT := Lib.hid (hT.trans (show ciB n l = (l.all (fun g => gtB g n) && (decide (1 ≤ n ∧ n ≤ 4) && decide (l.length ≤ 60))) from rfl))
  clear hT
  by_cases hn : 1 ≤ n ∧ n ≤ 4
  · have Hq := Lib.hid (fun w => iisq_yes n w hn)
    have HG := Lib.hid (fun x W => ivalidG x n W n0 n1)
    have HT1 := Lib.hid (HT.out.trans (by rw [decide_eq_true hn, Bool.true_and]))
    clear hn HT
    by_cases h60 : l.length ≤ 60
    · have HT2 := Lib.hid (HT1.out.trans (by rw [decide_eq_true h60, Bool.and_true]))
      clear HT1
      go_enter Tryz.func38, Tryz.ntmps38
      go_wp2_with (first | (go_at_call 93; refine (Hq.out _).mono ?_; rintro e wR ⟨rfl, rfl⟩))
      go_loopg [18] l.length (fun m i wr => ∃ j : Nat, m = l.length - j ∧ j ≤ l.length ∧ i = .int .i64 j ∧ Hid ((l.take j).all (fun g => gtB g n) = true) ∧ Hid (wr.heap[w.heap.size]? = some (.cells #[.int .i64 n, .slice a l.length cap] 26 (0, 0))) ∧ Hid (Below w.heap.size w wr))
      case atStart => exact ⟨0, rfl, Nat.zero_le _, rfl, rfl, HC0, Hb0⟩
      case round =>
        obtain ⟨j, rfl, hj, rfl, Hyes, HC, Hb⟩ := hrel
        clear p0 p1 hCl
        obtain ⟨p0, p1⟩ := blk_cells2 HC.out
        have hCl := lt_of_block HC.out
        have hsw := Hb.out.size
        by_cases hlt : j < l.length
        · obtain ⟨g, rfl, _, hrow⟩ := Hr.out (by omega)
          obtain ⟨x, hx⟩ : ∃ x, l[j]? = some x := ⟨l[j], List.getElem?_eq_getElem hlt⟩
          have r1 := hrow.below Hb.out hrow.lt
          obtain ⟨c0, c1, c2, c3⟩ := GRow.cells r1 hx
          have hgl := r1.lt
          have HX := Lib.hid (heap_alloc_new wr (.cells #[.int .i64 x.k, .int .i64 x.a, .int .i64 x.b, .int .i64 x.c] 35))
          have HC2 := Lib.hid (alloc_blk (.cells #[.int .i64 x.k, .int .i64 x.a, .int .i64 x.b, .int .i64 x.c] 35) HC.out)
          obtain ⟨q0, q1⟩ := blk_cells2 HC2.out
          have Hb' := Lib.hid (show Below w.heap.size w (wr.alloc (.cells #[.int .i64 x.k, .int .i64 x.a, .int .i64 x.b, .int .i64 x.c] 35)) from Hb.out.alloc hsw _)
          have Hat := Lib.hid (all_take (p := fun g => gtB g n) hx Hyes.out)
          have Hno := Lib.hid (fun h => all_no (p := fun g => gtB g n) hx h)
          have Hc := Lib.hid (fun W => HG.out x W)
          clear hrow r1 hx
          generalize gtB x n = t at *
          go_wp2_with fail
          refine (Hc.out _).mono ?_
          rintro e w4 ⟨rfl, hb4⟩
          have HC4 := Lib.hid (below_blk hb4 (lt_of_block HC2.out) HC2.out)
          have Hb4 := Lib.hid (below_nx Hb'.out hb4)
          have hs4 := Hb4.out.size
          clear hb4 c0 c1 c2 c3 hgl
          cases t with
          | true =>
            clear Hno
            go_wp2_with fail
            go_roundg (l.length - (j + 1))
            case measure => omega
            case rel => exact ⟨j + 1, rfl, by omega, by go_num, Hat, HC4, Hb4⟩
          | false =>
            obtain rfl : T = false := HT2.out.trans (Hno.out rfl)
            clear Hno
            go_wp2_with fail
            go_ret
            exact ⟨rfl, Hb4.out⟩
        · obtain rfl : j = l.length := by omega
          have hall := Hyes.out
          rw [List.take_length] at hall
          obtain rfl : T = true := HT2.out.trans hall
          clear hall
          go_wp2_with fail
          go_ret
          exact ⟨rfl, Hb.out⟩
    · obtain rfl : T = false := HT1.out.trans (by rw [decide_eq_false h60, Bool.and_false])
      have h61 : ¬ l.length ≤ 60 := h60
      clear HT1 h60 HG
      go_enter Tryz.func38, Tryz.ntmps38
      go_wp2_with (first | (go_at_call 93; refine (Hq.out _).mono ?_; rintro e wR ⟨rfl, rfl⟩))
      go_ret
      exact ⟨rfl, Hb0.out⟩
  · have Hq := Lib.hid (fun w => iisq_no n w hn n0 n1)
    obtain rfl : T = false := HT.out.trans (by rw [decide_eq_false hn, Bool.false_and, Bool.and_false])
    clear hn HT
    go_enter Tryz.func38, Tryz.ntmps38
    go_wp2_with (first | (go_at_call 93; refine (Hq.out _).mono ?_; rintro e wR ⟨rfl, rfl⟩))
    go_ret
    exact ⟨rfl, Hb0.out⟩
set_option maxRecDepth 100000 in
set_option maxHeartbeats 3200000 in
theorem icirc (B : Nat) (n : Int) (v : Value) (l : List Gt) (w : World) (hv : gtE.Sl w B v l) (hm : l.length ≤ 1048576) (n0 : -9223372036854775808 ≤ n) (n1 : n ≤ 9223372036854775807) :
    Calls Tryz.prog 9 #[.agg #[.int .i64 n, v]] w fun e w' => (∃ r, e = .returned (.tuple #[r, .bool (ccB n l)]) ∧ DSM w' w.heap.size w'.heap.size r (ccM n l)) ∧ Below w.heap.size w w' := by
  have HX := Lib.hid (heap_alloc_new w (.cells #[.int .i64 n, v] 26))
  have Hb0 := Lib.hid (show Below w.heap.size w (w.alloc (.cells #[.int .i64 n, v] 26)) by go_grown)
  have Hv := Lib.hid (hv.below Hb0.out)
  obtain ⟨c0, c1⟩ := blk_cells2 HX.out
  have hCl := lt_of_block HX.out
  have H1 := Lib.hid (fun W (h : gtE.Sl W B v l) => ivalidC B n v l W h hm n0 n1)
  obtain ⟨pa, ca, hpa, -, -⟩ := id hv
  clear hv
  cases hc : ciB n l with
  | false =>
    rw [hc] at H1
    rw [show ccB n l = false by unfold ccB; rw [hc]; rfl, show ccM n l = [] by unfold ccM; rw [hc]; rfl]
    clear hc
    subst hpa
    go_enter Tryz.func9, Tryz.ntmps9
    go_wp2_with fail
    refine (H1.out _ Hv.out).mono ?_
    rintro e w1 ⟨rfl, hb1⟩
    have Hb1 := Lib.hid (below_nx Hb0.out hb1)
    clear hb1 c0 c1 hCl
    go_wp2_with fail
    go_returns
    exact ⟨⟨_, rfl, DSM.nil⟩, by have := Hb1.out; go_grown⟩
  | true =>
    rw [hc] at H1
    have hn : 1 ≤ n ∧ n ≤ 4 := by
      have h := hc
      unfold ciB at h
      rw [Bool.and_eq_true, Bool.and_eq_true] at h
      exact of_decide_eq_true h.2.1
    obtain ⟨m, rfl⟩ : ∃ m : Nat, n = (m : Int) := ⟨n.toNat, by omega⟩
    have H2 := Lib.hid (fun W (h : gtE.Sl W B v l) => imatL B v l m W h (by omega) (by omega) hm)
    rw [show ccB (m : Int) l = cirB l m by unfold ccB; rw [hc, Int.toNat_natCast]; rfl, show ccM (m : Int) l = cirM l m by unfold ccM; rw [hc, Int.toNat_natCast]; rfl]
    generalize cirM l m = SL at *
    generalize cirB l m = SB at *
    clear hc hn
    subst hpa
    go_enter Tryz.func9, Tryz.ntmps9
    go_wp2_with fail
    refine (H1.out _ Hv.out).mono ?_
    rintro e w1 ⟨rfl, hb1⟩
    have HX1 := Lib.hid (below_blk hb1 (lt_of_block HX.out) HX.out)
    have Hv1 := Lib.hid (Hv.out.below hb1)
    have Hb1 := Lib.hid (below_nx Hb0.out hb1)
    clear hb1 c0 c1 hCl
    obtain ⟨c0, c1⟩ := blk_cells2 HX1.out
    have hCl := lt_of_block HX1.out
    go_wp2_with fail
    refine (H2.out _ Hv1.out).mono ?_
    rintro e w3 ⟨⟨q, rfl, hd⟩, hb3⟩
    have Hd := Lib.hid (hd.mono (D := w.heap.size) (E := w3.heap.size) Hb1.out.size (Nat.le_refl _))
    have Hb3 := Lib.hid (below_nx Hb1.out hb3)
    clear hd hb3 c0 c1 hCl
    go_wp2_with fail
    go_returns
    exact ⟨⟨_, rfl, Hd.out⟩, Hb3.out⟩
end Go.Proofs.YtmpafidkpangeaaGreat
namespace Go.Proofs.YtmpafidkpangeaaGreat
theorem gk1 (A B C i : Nat) : goesL 1 A B C i = [(flipN i A, dPh 0)] := rfl
theorem gk2 (A B C i : Nat) : goesL 2 A B C i = [(flipN i A, dPh (if bitN i A then 6 else 2))] := rfl
theorem gk3 (A B C i : Nat) : goesL 3 A B C i = [(i, if bitN i A then dPh 4 else dPh 0)] := rfl
theorem gk4 (A B C i : Nat) : goesL 4 A B C i = [(lowN i A, isV 1), (flipN (lowN i A) A, if bitN i A then dNegV (isV 1) else isV 1)] := rfl
theorem gk5 (A B C i : Nat) : goesL 5 A B C i = [(i, if bitN i A then dPh 2 else dPh 0)] := rfl
theorem gk6 (A B C i : Nat) : goesL 6 A B C i = [(i, if bitN i A then dPh 6 else dPh 0)] := rfl
theorem gk7 (A B C i : Nat) : goesL 7 A B C i = [(i, if bitN i A then dPh 1 else dPh 0)] := rfl
theorem gk8 (A B C i : Nat) : goesL 8 A B C i = [(i, if bitN i A then dPh 7 else dPh 0)] := rfl
theorem gk9 (A B C i : Nat) : goesL 9 A B C i = [(if bitN i A then flipN i B else i, dPh 0)] := rfl
theorem gk10 (A B C i : Nat) : goesL 10 A B C i = [(i, if (bitN i A && bitN i B) then dPh 4 else dPh 0)] := rfl
theorem gk11 (A B C i : Nat) : goesL 11 A B C i = [(if bitN i A != bitN i B then flipN (flipN i A) B else i, dPh 0)] := rfl
theorem gk12 (A B C i : Nat) : goesL 12 A B C i = [(if (bitN i A && bitN i B) then flipN i C else i, dPh 0)] := rfl
end Go.Proofs.YtmpafidkpangeaaGreat
namespace Go.Proofs.YtmpafidkpangeaaGreat
/-- Every coefficient lies within K. -/
def Mx (K : Int) (z : Zw) : Prop := (-K ≤ z.a ∧ z.a ≤ K) ∧ (-K ≤ z.b ∧ z.b ≤ K) ∧ (-K ≤ z.c ∧ z.c ≤ K) ∧ (-K ≤ z.d ∧ z.d ≤ K)
theorem Mx.root_back {K : Int} {z : Zw} (h : Mx K z.root) : Mx K z := by
  unfold Mx Zw.root at h
  simp only at h
  unfold Mx
  omega
theorem Mx.rootN_back {K : Int} : ∀ (k : Nat) {z : Zw}, Mx K (rootN k z) → Mx K z
  | 0, _, h => h
  | k + 1, z, h => Mx.rootN_back k (Mx.root_back (by rwa [← rootN_succ]))
theorem Mx.add {K J : Int} {x y : Zw} (h : Mx K x) (k : Mx J y) : Mx (K + J) (x.add y) := by
  unfold Mx at *
  unfold Zw.add
  simp only
  omega
theorem prod_in {K u v : Int} (h0 : -K ≤ u) (h1 : u ≤ K) (k0 : -K ≤ v) (k1 : v ≤ K) : -(K * K) ≤ u * v ∧ u * v ≤ K * K := by
  have a1 := Int.mul_nonneg (show 0 ≤ K - u by omega) (show 0 ≤ K + v by omega)
  have a2 := Int.mul_nonneg (show 0 ≤ K + u by omega) (show 0 ≤ K - v by omega)
  have a3 := Int.mul_nonneg (show 0 ≤ K - u by omega) (show 0 ≤ K - v by omega)
  have a4 := Int.mul_nonneg (show 0 ≤ K + u by omega) (show 0 ≤ K + v by omega)
  rw [Int.sub_mul, Int.mul_add, Int.mul_add] at a1
  rw [Int.add_mul, Int.mul_sub, Int.mul_sub] at a2
  rw [Int.sub_mul, Int.mul_sub, Int.mul_sub] at a3
  rw [Int.add_mul, Int.mul_add, Int.mul_add] at a4
  constructor <;> omega
theorem Mx.mul {K : Int} {x y : Zw} (h : Mx K x) (k : Mx K y) : Mx (4 * (K * K)) (x.mul y) := by
  obtain ⟨⟨a0, a1⟩, ⟨b0, b1⟩, ⟨c0, c1⟩, d0, d1⟩ := h
  obtain ⟨⟨e0, e1⟩, ⟨f0, f1⟩, ⟨g0, g1⟩, i0, i1⟩ := k
  have p1 := prod_in a0 a1 e0 e1
  have p2 := prod_in a0 a1 f0 f1
  have p3 := prod_in a0 a1 g0 g1
  have p4 := prod_in a0 a1 i0 i1
  have q1 := prod_in b0 b1 e0 e1
  have q2 := prod_in b0 b1 f0 f1
  have q3 := prod_in b0 b1 g0 g1
  have q4 := prod_in b0 b1 i0 i1
  have r1 := prod_in c0 c1 e0 e1
  have r2 := prod_in c0 c1 f0 f1
  have r3 := prod_in c0 c1 g0 g1
  have r4 := prod_in c0 c1 i0 i1
  have s1 := prod_in d0 d1 e0 e1
  have s2 := prod_in d0 d1 f0 f1
  have s3 := prod_in d0 d1 g0 g1
  have s4 := prod_in d0 d1 i0 i1
  unfold Mx Zw.mul
  simp only
  omega
theorem Mx.conj {K : Int} {x : Zw} (h : Mx K x) : Mx K x.conj := by
  unfold Mx at *
  unfold Zw.conj
  simp only
  omega
theorem Mx.ok {K : Int} {x : Zw} (h : Mx K x) (hK : K ≤ 1073741824) : x.ok := by
  unfold Mx at h
  unfold Zw.ok Near
  omega
theorem upB_of : ∀ (k : Nat) {n : Zw}, (∀ i, i ≤ k → (rootN i n).ok) → upB k n = true
  | 0, _, _ => rfl
  | k + 1, n, h => by
    have h0 := h 0 (by omega)
    have h1 := h 1 (by omega)
    rw [upB, Bool.and_eq_true]
    refine ⟨?_, upB_of k fun i hi => ?_⟩
    · unfold mulB
      rw [decide_eq_true_eq]
      exact ⟨h0, by decide, by rw [mul_rootE]; exact h1⟩
    · have := h (i + 1) (by omega)
      rwa [Nat.add_comm, rootN_add] at this
/-- x is, over the root's power t, a number with small coefficients. -/
def Ov (t : Nat) (K : Int) (x : Dw) : Prop := x.ok ∧ ∃ P, rootN t (vl x) = rootN 60 P ∧ Mx K P
theorem Ov.exp {t : Nat} {K : Int} {x : Dw} (h : Ov t K x) : x.e ≤ t ∧ ∀ i, i ≤ t - x.e.toNat → Mx K (rootN i x.n) := by
  obtain ⟨hx, P, hP, hK⟩ := h
  obtain ⟨x1, x2, x3, x4⟩ := hx
  unfold vl at hP
  rw [← rootN_add] at hP
  have hle : x.e ≤ t := by
    rcases Int.lt_or_le (t : Int) x.e with hl | hl
    · exfalso
      have h1 : x.n = rootN (x.e.toNat - t) P := by
        apply rootN_inj (k := 60 - x.e.toNat + t)
        rw [hP, ← rootN_add]
        congr 1; omega
      rcases x4 with x4 | x4
      · omega
      · have hm : x.n = (rootN (x.e.toNat - t - 1) P).root := by
          rw [h1, show x.e.toNat - t = (x.e.toNat - t - 1) + 1 by omega, rootN_succ]
          congr 2
        have hd : divB x.n = true := by
          rw [divB_iff]
          refine ⟨x1, ?_⟩
          rw [hm]
          unfold Zw.even Zw.root
          simp only
          omega
        rw [x4] at hd
        cases hd
    · exact hl
  refine ⟨hle, fun i hi => ?_⟩
  have h2 : rootN (t - x.e.toNat) x.n = P := by
    apply rootN_inj (k := 60)
    rw [← hP, ← rootN_add]
    congr 1; omega
  rw [← h2, show t - x.e.toNat = i + (t - x.e.toNat - i) by omega, rootN_add] at hK
  exact hK.rootN_back _
theorem Ov.mul {t : Nat} {K : Int} {x y : Dw} (h : Ov t K x) (k : Ov t K y) (_ : K ≤ 1073741824) (h4 : 4 * (K * K) ≤ 1073741824) (ht : t ≤ 30) : dMulB x y = true ∧ Ov (2 * t) (4 * (K * K)) (dMulV x y) := by
  obtain ⟨hx, P, hP, hPK⟩ := id h
  obtain ⟨hy, Q, hQ, hQK⟩ := id k
  obtain ⟨ex, mx⟩ := h.exp
  obtain ⟨ey, my⟩ := k.exp
  have x0 := hx.2.1
  have y0 := hy.2.1
  have hmul := (mx 0 (by omega)).mul (my 0 (by omega))
  have hok : (x.n.mul y.n).ok := hmul.ok h4
  have hB : dMulB x y = true := by
    rw [dMulB_iff]
    refine ⟨hx, hy, ?_, ?_⟩
    · unfold mulB
      rw [decide_eq_true_eq]
      exact ⟨hx.1, hy.1, hok⟩
    · rw [newB_iff]
      refine ⟨hok, by omega, by omega, ?_⟩
      have := red_le (x.e + y.e).toNat (x.n.mul y.n)
      omega
  refine ⟨hB, dMulV_ok hB, P.mul Q, ?_, hPK.mul hQK⟩
  have hv := vl_mul hB
  apply rootN_inj (k := 60)
  rw [rootN_comm, hv, show 2 * t = t + t by omega, rootN_mul2, hP, hQ, ← rootN_mul2, rootN_add]
theorem Ov.add {t : Nat} {K J : Int} {x y : Dw} (h : Ov t K x) (k : Ov t J y) (hK : 0 ≤ K) (hJ : 0 ≤ J) (hs : K + J ≤ 1073741824) (ht : t ≤ 60) : dAddB x y = true ∧ Ov t (K + J) (dAddV x y) := by
  obtain ⟨hx, P, hP, hPK⟩ := id h
  obtain ⟨hy, Q, hQ, hQK⟩ := id k
  obtain ⟨ex, mx⟩ := h.exp
  obtain ⟨ey, my⟩ := k.exp
  have x0 := hx.2.1
  have y0 := hy.2.1
  obtain ⟨t1, t2, t3⟩ := topE_le x y
  have hA : Mx K (numA x y) := mx _ (by omega)
  have hBy : Mx J (numB x y) := my _ (by omega)
  have hsum := hA.add hBy
  have hok : ((numA x y).add (numB x y)).ok := hsum.ok hs
  have hB : dAddB x y = true := by
    rw [dAddB_iff]
    refine ⟨hx, hy, upB_of _ fun i hi => (mx i (by omega)).ok (by omega), upB_of _ fun i hi => (my i (by omega)).ok (by omega), ?_, ?_⟩
    · unfold addB
      rw [decide_eq_true_eq]
      exact ⟨hA.ok (by omega), hBy.ok (by omega), hok⟩
    · rw [newB_iff]
      refine ⟨hok, by omega, by omega, ?_⟩
      have := red_le (topE x y).toNat ((numA x y).add (numB x y))
      omega
  refine ⟨hB, dAddV_ok hB, P.add Q, ?_, hPK.add hQK⟩
  rw [vl_add hB, rootN_addZ, rootN_addZ, hP, hQ]
theorem mrow_ov {t : Nat} {K : Int} (hK0 : 0 ≤ K) (hK : K ≤ 1073741824) (ht : t ≤ 30) : ∀ (l : List (Dw × Dw)) (s : Dw) (S : Int), (∀ p ∈ l, Ov t K p.1 ∧ Ov t K p.2) → 0 ≤ S → Ov (2 * t) S s → S + (l.length : Int) * (4 * (K * K)) ≤ 1073741824 → (mrow s l).isSome = true
  | [], _, _, _, _, _, _ => rfl
  | p :: r, s, S, h, hS, hs, hl => by
    have hkk : 0 ≤ K * K := Int.mul_nonneg hK0 hK0
    have hrl : 0 ≤ (r.length : Int) * (4 * (K * K)) := Int.mul_nonneg (by omega) (by omega)
    rw [List.length_cons, show ((r.length + 1 : Nat) : Int) * (4 * (K * K)) = (r.length : Int) * (4 * (K * K)) + 4 * (K * K) by rw [Int.natCast_add, Int.add_mul]; simp] at hl
    have h' := fun q hq => h q (List.mem_cons_of_mem _ hq)
    rw [mrow]
    split
    · exact mrow_ov hK0 hK ht r s S h' hS hs (by omega)
    · obtain ⟨p1, p2⟩ := h p (List.mem_cons_self ..)
      obtain ⟨m1, m2⟩ := p1.mul p2 hK (by omega) ht
      obtain ⟨a1, a2⟩ := hs.add m2 hS (by omega) (by omega) (by omega)
      rw [m1, a1, Bool.and_self, if_pos rfl]
      exact mrow_ov hK0 hK ht r _ _ h' (by omega) a2 (by omega)
/-- The coefficients of gates one behind the other, over the root's power of the number of GateH. -/
def hs (L : List Gt) : Nat := (L.map fun g => scK g.k).sum
def cl1 (N : Nat) : List Gt → Nat → Nat → Zw
  | [], i, j => if i = j then oneZ else .zero
  | g :: L, i, j => sumZ N fun m => (cf (nums (goesG g i)) m).mul (cl1 N L m j)
theorem goes_sc {g : Gt} (hk : 1 ≤ g.k ∧ g.k ≤ 12) (i : Nat) : ∀ p ∈ goesG g i, p.2.e.toNat = scK g.k := by
  have hif : ∀ (t : Bool) (m : Int), (if t = true then dPh m else dPh 0).e.toNat = 0 := fun t m => by cases t <;> rfl
  intro p hp
  unfold goesG at hp
  rcases (show g.k = 1 ∨ g.k = 2 ∨ g.k = 3 ∨ g.k = 4 ∨ g.k = 5 ∨ g.k = 6 ∨ g.k = 7 ∨ g.k = 8 ∨ g.k = 9 ∨ g.k = 10 ∨ g.k = 11 ∨ g.k = 12 by omega) with e | e | e | e | e | e | e | e | e | e | e | e <;> rw [e] at hp ⊢
  · rw [gk1, List.mem_singleton] at hp; subst hp; rfl
  · rw [gk2, List.mem_singleton] at hp; subst hp; rfl
  · rw [gk3, List.mem_singleton] at hp; subst hp; exact hif _ _
  · rw [gk4] at hp
    rcases List.mem_cons.1 hp with rfl | hp
    · exact (by decide : (isV 1).e.toNat = 1)
    · rw [List.mem_singleton] at hp
      subst hp
      cases bitN i g.a.toNat
      · exact (by decide : (isV 1).e.toNat = 1)
      · exact (by decide : (dNegV (isV 1)).e.toNat = 1)
  · rw [gk5, List.mem_singleton] at hp; subst hp; exact hif _ _
  · rw [gk6, List.mem_singleton] at hp; subst hp; exact hif _ _
  · rw [gk7, List.mem_singleton] at hp; subst hp; exact hif _ _
  · rw [gk8, List.mem_singleton] at hp; subst hp; exact hif _ _
  · rw [gk9, List.mem_singleton] at hp; subst hp; rfl
  · rw [gk10, List.mem_singleton] at hp; subst hp; exact hif _ _
  · rw [gk11, List.mem_singleton] at hp; subst hp; rfl
  · rw [gk12, List.mem_singleton] at hp; subst hp; rfl
theorem cf_nums {s : Nat} (hs : s ≤ 1) : ∀ (L : List (Nat × Dw)) (j : Nat), (∀ p ∈ L, p.2.e.toNat = s) → cf L j = rootN (1 - s) (cf (nums L) j)
  | [], j, _ => by rw [show nums [] = [] from rfl, cf, rootN_z]
  | p :: r, j, h => by
    have ih := cf_nums hs r j fun q hq => h q (List.mem_cons_of_mem _ hq)
    rw [show nums (p :: r) = (p.1, (⟨p.2.n, 1⟩ : Dw)) :: nums r from rfl, cf, cf, ih]
    have hw : wt p.2 = rootN (1 - s) (wt ⟨p.2.n, 1⟩) := by
      unfold wt
      rw [h p (List.mem_cons_self ..)]
      rfl
    split
    · rw [hw, rootN_addZ]
    · rfl
theorem scK_le (k : Int) : scK k ≤ 1 := by unfold scK; split <;> omega
theorem hs_le : ∀ L : List Gt, hs L ≤ L.length
  | [] => Nat.le_refl _
  | g :: L => by
    have := hs_le L
    have := scK_le g.k
    rw [show hs (g :: L) = scK g.k + hs L by simp [hs], List.length_cons]
    omega
theorem hs_cons (g : Gt) (L : List Gt) : hs (g :: L) = scK g.k + hs L := by simp [hs]
theorem cl_cl1 (N : Nat) : ∀ (L : List Gt), (∀ g ∈ L, 1 ≤ g.k ∧ g.k ≤ 12) → ∀ (i j : Nat), cl N L i j = rootN (L.length - hs L) (cl1 N L i j)
  | [], _, i, j => rfl
  | g :: L, h, i, j => by
    have h1 := hs_le L
    have h2 := scK_le g.k
    rw [cl, cl1, rootN_sumZ]
    refine sumZ_congr fun m _ => ?_
    rw [cl_cl1 N L (fun g hg => h g (List.mem_cons_of_mem _ hg)) m j, cf_nums h2 _ m (goes_sc (h g (List.mem_cons_self ..)) i), ← rootN_mul2, hs_cons, List.length_cons]
    congr 1; omega
/-- The matrix of gates over the smaller power. -/
theorem cir_rep1 {L : List Gt} {n : Nat} (h1 : 1 ≤ n) (h4 : n ≤ 4) (hv : ∀ g ∈ L, gtB g n = true) (hb : cirB L n = true) : Rep (cirM L n) (2 ^ n) (hs L) (cl1 (2 ^ n) L) := by
  obtain ⟨a, b, c⟩ := cir_rep h1 h4 hb
  refine ⟨a, b, fun k hk i hi => ?_⟩
  have h := c k hk i hi
  have hl := hs_le L
  rw [cl_cl1 _ _ fun g hg => (gtB_parts (hv g hg)).2.1, rootN_comm] at h
  apply rootN_inj (k := L.length - hs L)
  rw [← h, ← rootN_add]
  congr 1; omega
theorem conj_sumZ (n : Nat) (f : Nat → Zw) : (sumZ n f).conj = sumZ n fun i => (f i).conj := by
  induction n with
  | zero => rfl
  | succ n ih => rw [sumZ, sumZ, conj_addZ, ih]
/-- The coefficients are unitary. -/
theorem cl1_uni {n : Int} {N : Nat} (hN : N = 2 ^ n.toNat) (h16 : N ≤ 16) (hq : qc N = n) : ∀ (L : List Gt), (∀ g ∈ L, gtB g n = true) → ∀ i, i < N → ∀ k, k < N → sumZ N (fun m => (cl1 N L i m).mul (cl1 N L k m).conj) = if i = k then rootN (2 * hs L) oneZ else .zero
  | [], _, i, hi, k, hk => by
    rw [sumZ_one (fun m => (cl1 N [] i m).mul (cl1 N [] k m).conj) hi fun m _ hm => by rw [cl1, if_neg fun e => hm e.symm, zero_mul'], cl1, if_pos rfl, oneZ_mul, cl1]
    by_cases e : i = k
    · rw [if_pos e, if_pos e.symm]; rfl
    · rw [if_neg e, if_neg fun x => e x.symm]; rfl
  | g :: L, h, i, hi, k, hk => by
    have hg := h g (List.mem_cons_self ..)
    have ih := cl1_uni hN h16 hq L fun g' hg' => h g' (List.mem_cons_of_mem _ hg')
    have hin : ∀ i, i < N → ∀ p ∈ nums (goesG g i), p.1 < N := fun i hi p hp => by
      obtain ⟨q, hq', rfl⟩ := List.mem_map.1 hp
      exact goesG_in (by rw [hq]; exact hg) hi q hq'
    have e1 : ∀ m, m < N → (cl1 N (g :: L) i m).mul (cl1 N (g :: L) k m).conj = sumZ N fun q => sumZ N fun r => ((cf (nums (goesG g i)) q).mul ((cf (nums (goesG g k)) r).conj)).mul ((cl1 N L q m).mul (cl1 N L r m).conj) := fun m _ => by
      rw [cl1, cl1, conj_sumZ, sumZ_mul]
      refine sumZ_congr fun q _ => ?_
      rw [mul_sumZ]
      refine sumZ_congr fun r _ => ?_
      rw [← conj_mul]
      apply Zw.ext4 <;> simp only [Zw.mul, Zw.conj] <;> grind
    rw [sumZ_congr e1, sumZ_swap]
    have e2 : ∀ q, q < N → sumZ N (fun m => sumZ N fun r => ((cf (nums (goesG g i)) q).mul ((cf (nums (goesG g k)) r).conj)).mul ((cl1 N L q m).mul (cl1 N L r m).conj)) = ((cf (nums (goesG g i)) q).mul ((cf (nums (goesG g k)) q).conj)).mul (rootN (2 * hs L) oneZ) := fun q hq' => by
      rw [sumZ_swap]
      have e3 : ∀ r, r < N → sumZ N (fun m => ((cf (nums (goesG g i)) q).mul ((cf (nums (goesG g k)) r).conj)).mul ((cl1 N L q m).mul (cl1 N L r m).conj)) = ((cf (nums (goesG g i)) q).mul ((cf (nums (goesG g k)) r).conj)).mul (if q = r then rootN (2 * hs L) oneZ else .zero) := fun r hr => by
        rw [← mul_sumZ, ih q hq' r hr]
      rw [sumZ_congr e3, sumZ_one (fun r => ((cf (nums (goesG g i)) q).mul ((cf (nums (goesG g k)) r).conj)).mul (if q = r then rootN (2 * hs L) oneZ else .zero)) hq' fun r _ hr => by rw [if_neg fun e => hr e.symm, mul_zero'], if_pos rfl]
    rw [sumZ_congr e2, ← sumZ_mul, cf_sum (fun m => (cf (nums (goesG g k)) m).conj) _ (hin i hi), goes_uni hg (by omega) (by omega)]
    by_cases e : i = k
    · rw [if_pos e, if_pos e, ← rootN_mul2, oneZ_mul, hs_cons, Nat.mul_add]
    · rw [if_neg e, if_neg e, zero_mul']
/-- One square among squares. -/
theorem sumZ_part {f : Nat → Zw} : ∀ {n : Nat}, (∀ i, i < n → 0 ≤ (f i).a) → 0 ≤ (sumZ n f).a ∧ ∀ k, k < n → (f k).a ≤ (sumZ n f).a
  | 0, _ => ⟨Int.le_refl _, fun k hk => absurd hk (Nat.not_lt_zero _)⟩
  | n + 1, h => by
    obtain ⟨h1, h2⟩ := sumZ_part (n := n) fun i hi => h i (by omega)
    have hn := h n (by omega)
    have e : (sumZ (n + 1) f).a = (sumZ n f).a + (f n).a := rfl
    refine ⟨by omega, fun k hk => ?_⟩
    rcases Nat.lt_succ_iff_lt_or_eq.1 hk with hk | rfl
    · have := h2 k hk; omega
    · omega
theorem norm_a (z : Zw) : (z.mul z.conj).a = z.a * z.a + z.b * z.b + z.c * z.c + z.d * z.d := by
  simp only [Zw.mul, Zw.conj]
  rw [Int.mul_neg, Int.mul_neg, Int.mul_neg]
  omega
theorem sq_in {u T K : Int} (hK : 0 ≤ K) (h : u * u ≤ T) (hT : T < (K + 1) * (K + 1)) : -K ≤ u ∧ u ≤ K := by
  constructor
  · rcases Int.lt_or_le u (-K) with hl | hl
    · exfalso
      have := Int.mul_le_mul (show K + 1 ≤ -u by omega) (show K + 1 ≤ -u by omega) (by omega) (by omega)
      rw [Int.neg_mul_neg] at this
      omega
    · exact hl
  · rcases Int.lt_or_le K u with hl | hl
    · exfalso
      have := Int.mul_le_mul (show K + 1 ≤ u by omega) (show K + 1 ≤ u by omega) (by omega) (by omega)
      omega
    · exact hl
theorem sq_nonneg' (a : Int) : 0 ≤ a * a := by
  rcases Int.le_total 0 a with h | h
  · exact Int.mul_nonneg h h
  · have := Int.mul_nonneg (show 0 ≤ -a by omega) (show 0 ≤ -a by omega)
    rwa [Int.neg_mul_neg] at this
theorem Mx_norm {z : Zw} {T K : Int} (hK : 0 ≤ K) (h : (z.mul z.conj).a ≤ T) (hT : T < (K + 1) * (K + 1)) : Mx K z := by
  rw [norm_a] at h
  have ha := sq_nonneg' z.a
  have hb := sq_nonneg' z.b
  have hc := sq_nonneg' z.c
  have hd := sq_nonneg' z.d
  exact ⟨sq_in hK (by omega) hT, sq_in hK (by omega) hT, sq_in hK (by omega) hT, sq_in hK (by omega) hT⟩
theorem pow_root : ∀ h : Fin 15, (rootN (2 * h.val) oneZ).a < (128 + 1) * (128 + 1) := by decide +kernel
end Go.Proofs.YtmpafidkpangeaaGreat
namespace Go.Proofs.YtmpafidkpangeaaGreat
theorem rep_ov {M : List (List Dw)} {N s : Nat} {C : Nat → Nat → Zw} {K : Int} (h : Rep M N s C) (hC : ∀ i, i < N → ∀ k, k < N → Mx K (C i k)) : ∀ r ∈ M, ∀ x ∈ r, Ov s K x := by
  intro r hr x hx
  obtain ⟨k, hk⟩ := List.getElem?_of_mem hr
  have hkN : k < N := by
    rcases Nat.lt_or_ge k M.length with h' | h'
    · rw [← h.1]; exact h'
    · rw [List.getElem?_eq_none h'] at hk; cases hk
  obtain ⟨r', r1, r2, r3, r4⟩ := h.row hkN
  rw [hk] at r1
  cases r1
  obtain ⟨i, hi⟩ := List.getElem?_of_mem hx
  have hiN : i < N := by
    rcases Nat.lt_or_ge i r.length with h' | h'
    · omega
    · rw [List.getElem?_eq_none h'] at hi; cases hi
  have hv := h.2.2 k hkN i hiN
  rw [r2, List.getD_eq_getElem?_getD, hi] at hv
  exact ⟨r4 x hx, C i k, hv, hC i hiN k hkN⟩
theorem col_mem {M : List (List Dw)} {k : Nat} {N : Nat} (hr : ∀ r ∈ M, r.length = N) (hk : k < N) {x : Dw} (hx : x ∈ col M k) : ∃ r ∈ M, x ∈ r := by
  obtain ⟨r, hr', rfl⟩ := List.mem_map.1 hx
  refine ⟨r, hr', ?_⟩
  have hl := hr r hr'
  rw [List.getD_eq_getElem?_getD, List.getElem?_eq_getElem (by omega)]
  exact List.getElem_mem _
theorem Ov.conj {t : Nat} {K : Int} {x : Dw} (h : Ov t K x) : Ov t K (dConjV x) := by
  obtain ⟨hx, P, hP, hK⟩ := h
  have e : dConjV x = x.conj := if_pos hx
  rw [e]
  refine ⟨dconj_ok.2 hx, P.conj, ?_, hK.conj⟩
  rw [show vl x.conj = (vl x).conj from rootN_conj _ _, rootN_conj, hP, rootN_conj]
theorem rep_mt {M : List (List Dw)} {N s : Nat} {C : Nat → Nat → Zw} (h : Rep M N s C) (hq : 0 < qc N) (h0 : 0 < N) : mtB M = true :=
  mtB_iff.2 ⟨by rw [h.1]; exact h0, fun r hr => ⟨by rw [h.1]; exact (h.2.1 r hr).1, stB_iff.2 ⟨(h.2.1 r hr).2, by rw [(h.2.1 r hr).1]; exact hq⟩⟩⟩
theorem adj_rep {M : List (List Dw)} {N s : Nat} {C : Nat → Nat → Zw} (h : Rep M N s C) (hmt : mtB M = true) : Rep (adjM M) N s fun i k => (C k i).conj := by
  have hM := h.1
  have hlen : (adjM M).length = N := by rw [adjM_yes hmt, List.length_map, List.length_range, hM]
  have hrow : ∀ k, k < N → (adjM M).getD k [] = (col M k).map dConjV := fun k hk => by
    rw [adjM_yes hmt, List.getD_eq_getElem?_getD, List.getElem?_map, List.getElem?_range (by omega)]
    rfl
  refine ⟨hlen, fun r hr => ?_, fun k hk i hi => ?_⟩
  · obtain ⟨k, hk⟩ := List.getElem?_of_mem hr
    have hkN : k < N := by
      rcases Nat.lt_or_ge k (adjM M).length with h' | h'
      · omega
      · rw [List.getElem?_eq_none h'] at hk; cases hk
    have e := hrow k hkN
    rw [List.getD_eq_getElem?_getD, hk] at e
    have e' : r = (col M k).map dConjV := e
    subst e'
    refine ⟨by rw [List.length_map, col_len, hM], fun x hx => ?_⟩
    obtain ⟨y, hy, rfl⟩ := List.mem_map.1 hx
    obtain ⟨q, hq, hyq⟩ := col_mem (fun r hr => (h.2.1 r hr).1) hkN hy
    have := (h.2.1 q hq).2 y hyq
    rw [show dConjV y = y.conj from if_pos this]
    exact dconj_ok.2 this
  · obtain ⟨r, r1, r2, r3, r4⟩ := h.row hi
    have hv := h.2.2 i hi k hk
    have hx : ((adjM M).getD k []).getD i .zero = dConjV ((M.getD i []).getD k .zero) := by
      rw [hrow k hk, List.getD_eq_getElem?_getD, List.getElem?_map, col, List.getElem?_map, r1, r2]
      rfl
    have hok : ((M.getD i []).getD k .zero).ok := by rw [r2]; exact getD_ok r4 k
    rw [hx, show dConjV ((M.getD i []).getD k .zero) = ((M.getD i []).getD k .zero).conj from if_pos hok, show ∀ x : Dw, vl x.conj = (vl x).conj from fun x => rootN_conj _ _, rootN_conj, hv, rootN_conj]
theorem id_rep {n : Nat} (h1 : 1 ≤ n) (h4 : n ≤ 4) (s : Nat) : Rep (idM n) (2 ^ n) s fun i k => if i = k then rootN s oneZ else .zero := by
  have hq : qc (2 ^ n) = n := by rcases (show n = 1 ∨ n = 2 ∨ n = 3 ∨ n = 4 by omega) with rfl | rfl | rfl | rfl <;> decide
  have hq0 : 0 < qc (2 ^ n) := by rw [hq]; omega
  have hI : idM (n : Int) = (List.range (2 ^ n)).map fun (i : Nat) => basisL n (i : Int) := by rw [idM, if_pos ⟨by omega, by omega⟩, Int.toNat_natCast]
  have hb : ∀ k : Nat, k < 2 ^ n → basisL n (k : Int) = (List.replicate (2 ^ n) .zero).set k oneD := fun k hk => by
    have := basis_eq hq0 hk
    rwa [hq] at this
  rw [hI]
  refine ⟨by simp, fun r hr => ?_, fun k hk i hi => ?_⟩
  · obtain ⟨k, hk, rfl⟩ := List.mem_map.1 hr
    rw [hb k (List.mem_range.1 hk)]
    exact ⟨by simp, set_ok' rep_ok' oneD_ok⟩
  · have hg : ((List.range (2 ^ n)).map fun (i : Nat) => basisL n (i : Int)).getD k [] = basisL n (k : Int) := by
      rw [List.getD_eq_getElem?_getD, List.getElem?_map, List.getElem?_range hk]
      rfl
    rw [hg]
    show rootN s (vl ((basisL n (k : Int)).getD i .zero)) = rootN 60 (if i = k then rootN s oneZ else .zero)
    rw [hb k hk, getD_set _ _ _ _ (by rw [List.length_replicate]; exact hk), rep_getD]
    by_cases e : k = i
    · rw [if_pos e, if_pos e.symm, vl_one, rootN_comm]; rfl
    · rw [if_neg e, if_neg fun x => e x.symm, vl_zero, rootN_z, rootN_z]
/-- The matrix of a circuit is unitary. -/
theorem cir_unitary {L : List Gt} {n : Nat} (h1 : 1 ≤ n) (h4 : n ≤ 4) (hv : ∀ g ∈ L, gtB g n = true) (hb : cirB L n = true) (hh : hs L ≤ 14) : uniB (cirM L n) = true := by
  have hN16 : 2 ^ n ≤ 16 ∧ 0 < 2 ^ n := by rcases (show n = 1 ∨ n = 2 ∨ n = 3 ∨ n = 4 by omega) with rfl | rfl | rfl | rfl <;> decide
  have hq : qc (2 ^ n) = n := by rcases (show n = 1 ∨ n = 2 ∨ n = 3 ∨ n = 4 by omega) with rfl | rfl | rfl | rfl <;> decide
  have hq0 : 0 < qc (2 ^ n) := by rw [hq]; omega
  have R := cir_rep1 h1 h4 hv hb
  have U := cl1_uni (n := (n : Int)) (N := 2 ^ n) (by rw [Int.toNat_natCast]) hN16.1 hq L hv
  have hC : ∀ i, i < 2 ^ n → ∀ k, k < 2 ^ n → Mx 128 (cl1 (2 ^ n) L i k) := fun i hi k hk => by
    have hu := U i hi i hi
    rw [if_pos rfl] at hu
    have hp := (sumZ_part (n := 2 ^ n) (f := fun m => (cl1 (2 ^ n) L i m).mul (cl1 (2 ^ n) L i m).conj) fun m _ => by
      show 0 ≤ ((cl1 (2 ^ n) L i m).mul (cl1 (2 ^ n) L i m).conj).a
      rw [norm_a]
      have a1 := sq_nonneg' (cl1 (2 ^ n) L i m).a
      have a2 := sq_nonneg' (cl1 (2 ^ n) L i m).b
      have a3 := sq_nonneg' (cl1 (2 ^ n) L i m).c
      have a4 := sq_nonneg' (cl1 (2 ^ n) L i m).d
      omega).2 k hk
    rw [hu] at hp
    exact Mx_norm (by decide) hp (pow_root ⟨hs L, by omega⟩)
  have hmt := rep_mt R hq0 hN16.2
  have hE := rep_ov R hC
  have RA := adj_rep R hmt
  have hmta := rep_mt RA hq0 hN16.2
  have hrl : ∀ r ∈ cirM L n, r.length = 2 ^ n := fun r hr => (R.2.1 r hr).1
  have hcolE : ∀ k, k < 2 ^ n → ∀ x ∈ col (cirM L n) k, Ov (hs L) 128 x := fun k hk x hx => by
    obtain ⟨r, hr, hxr⟩ := col_mem hrl hk hx
    exact hE r hr x hxr
  have happ : ∀ k, k < 2 ^ n → appB (adjM (cirM L n)) (col (cirM L n) k) = true := fun k hk => by
    unfold appB
    rw [hmta, Bool.true_and]
    have hst : stB (col (cirM L n) k) = true := stB_iff.2 ⟨fun x hx => (hcolE k hk x hx).1, by rw [col_len, R.1]; exact hq0⟩
    rw [hst, RA.1, col_len, R.1, decide_eq_true rfl, Bool.true_and, Bool.true_and, List.all_eq_true]
    intro r hr
    obtain ⟨j, hj⟩ := List.getElem?_of_mem hr
    have hjN : j < 2 ^ n := by
      rcases Nat.lt_or_ge j (adjM (cirM L n)).length with h' | h'
      · rw [← RA.1]; exact h'
      · rw [List.getElem?_eq_none h'] at hj; cases hj
    have hrj : r = (col (cirM L n) j).map dConjV := by
      have e := hj
      rw [adjM_yes hmt, List.getElem?_map, List.getElem?_range (by rw [R.1]; exact hjN)] at e
      injection e with e
      exact e.symm
    subst hrj
    unfold rowB rowO
    refine mrow_ov (t := hs L) (K := 128) (by decide) (by decide) (by omega) _ .zero 0 (fun p hp => ?_) (Int.le_refl _) ⟨zero_ok, .zero, by rw [vl_zero, rootN_z, rootN_z], by unfold Mx Zw.zero; simp only; omega⟩ ?_
    · obtain ⟨a, b⟩ := p
      obtain ⟨ha, hb'⟩ := List.of_mem_zip hp
      obtain ⟨y, hy, rfl⟩ := List.mem_map.1 ha
      exact ⟨(hcolE j hjN y hy).conj, hcolE k hk b hb'⟩
    · rw [List.length_zip, List.length_map, col_len, col_len, R.1, Nat.min_self]
      omega
  have hmul : mulMB (adjM (cirM L n)) (cirM L n) = true := by
    unfold mulMB
    rw [hmta, hmt, RA.1, R.1, decide_eq_true rfl, Bool.true_and, Bool.true_and, Bool.true_and, List.all_eq_true]
    exact fun k hk => happ k (List.mem_range.1 hk)
  have hid : mulM (adjM (cirM L n)) (cirM L n) = idM (qc (cirM L n).length) := by
    rw [R.1, hq]
    have RM := mul_rep RA R hmul
    refine RM.eq (id_rep h1 h4 (hs L + hs L)) fun i hi k hk => ?_
    have hu := U i hi k hk
    rw [show hs L + hs L = 2 * hs L by omega]
    exact hu
  unfold uniB
  rw [hmt, hmul, hid, Bool.true_and, Bool.true_and]
  exact decide_eq_true rfl
end Go.Proofs.YtmpafidkpangeaaGreat
