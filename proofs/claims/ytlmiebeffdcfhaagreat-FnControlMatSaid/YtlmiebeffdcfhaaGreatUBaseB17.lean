/- BaseB17: several of our texts in one: ApC ApD. -/
import Derived.Test.YtlmiebeffdcfhaaGreatUApB
namespace Go.Proofs.YtlmiebeffdcfhaaGreat
open Go.RowKit
attribute [local irreducible] World.cell?
set_option maxRecDepth 100000 in
set_option maxHeartbeats 3200000 in
theorem sapG_no1 (B : Nat) (g : Gt) (v : Value) (l : List Dw) (w : World) (hv : DSl w B v l) (hst : stB l = true) (hg : gtB g (qc l.length) = false) :
    Calls Tryz.prog 35 #[(.agg #[.int .i64 g.k, .int .i64 g.a, .int .i64 g.b, .int .i64 g.c]), v] w fun e w' => (∃ r, e = .returned (.tuple #[r, .bool false]) ∧ DSl w' w.heap.size r []) ∧ Below w.heap.size w w' := by
  have hlen := stB_len hst
  have Hb0 := Lib.hid (show Below w.heap.size w (w.alloc (.cells #[.int .i64 g.k, .int .i64 g.a, .int .i64 g.b, .int .i64 g.c] 25)) by go_grown)
  have H1 := Lib.hid (svalidSt B v l (w.alloc (.cells #[.int .i64 g.k, .int .i64 g.a, .int .i64 g.b, .int .i64 g.c] 25)).drew ((hv.below ((Below.refl _ _).alloc (Nat.le_refl _) (.cells #[.int .i64 g.k, .int .i64 g.a, .int .i64 g.b, .int .i64 g.c] 25))).block fun _ _ _ => rfl) (by omega))
  have H3 := Lib.hid (fun W => svalidG g (qc l.length) W)
  simp only [hg] at H3
  rw [hst] at H1
  obtain ⟨c0, c1, c2, c3⟩ := blk_cells (heap_alloc_new w (.cells #[.int .i64 g.k, .int .i64 g.a, .int .i64 g.b, .int .i64 g.c] 25))
  have hS : G1 (w.alloc (.cells #[.int .i64 g.k, .int .i64 g.a, .int .i64 g.b, .int .i64 g.c] 25)) w.heap.size g (w.alloc (.cells #[.int .i64 g.k, .int .i64 g.a, .int .i64 g.b, .int .i64 g.c] 25)) := ⟨c0, c1, c2, c3, by simp, Below.refl _ _⟩
  obtain ⟨a, cap, rfl, hcap, -⟩ := hv
  have Hq := Lib.hid (fun W => squbits a l.length cap W)
  have hqr := qc_range l.length
  generalize qc l.length = n at *
  clear hst hg
  go_enter Tryz.func35, Tryz.ntmps35
  go_upto_region 1 with fail
  refine wp_region_held_drew (S := (fun w' => w'.cell? ⟨w.heap.size, 0, none⟩ = some (.int .i64 g.k) ∧ w'.cell? ⟨w.heap.size, 1, none⟩ = some (.int .i64 g.a) ∧ w'.cell? ⟨w.heap.size, 2, none⟩ = some (.int .i64 g.b) ∧ w'.cell? ⟨w.heap.size, 3, none⟩ = some (.int .i64 g.c) ∧ w.heap.size < w'.heap.size ∧ Below (w.alloc (.cells #[.int .i64 g.k, .int .i64 g.a, .int .i64 g.b, .int .i64 g.c] 25)).heap.size (w.alloc (.cells #[.int .i64 g.k, .int .i64 g.a, .int .i64 g.b, .int .i64 g.c] 25)) w')) (by kernel_rfl) ?_ (fun hHeld => ?_)
  · exact hS.drew
  refine wpAnyH_take (i := 0) (oi := _) (v := ?_) op_at0 (by kernel_rfl) (by kernel_rfl) (by kernel_rfl) (fun _ _ _ h => h) (Or.inl ⟨by rfl, ?_⟩) (by assumption) ?_
  rotate_left
  · intro w hSw
    (try dsimp only at hSw)
    go_simp
    (try with_reducible rfl)
  (try simp only [Act.put, List.setIfInBounds_toArray, List.set_cons_zero, List.set_cons_succ])
  refine wpAnyH_ready (rs := [1]) (by kernel_rfl) (by simp) ?_
  refine AllReadyH.cons (o := _) op_at1 (fun K hK => ?_) ?_
  · go_simp
    refine (H1.out).mono ?_
    rintro e wR ⟨rfl, hbR⟩
    go_wp2_with fail
    refine hK.out _ _ ?_ (fun hHeld => ?_)
    · exact hS.drew.below hbR
    clear hK K
    (try simp only [Act.put, List.setIfInBounds_toArray, List.set_cons_zero, List.set_cons_succ])
    refine wpAnyH_take (i := 2) (oi := _) (v := ?_) op_at2 (by kernel_rfl) (by kernel_rfl) (by kernel_rfl) (fun _ _ _ h => h) (Or.inl ⟨by rfl, ?_⟩) (by assumption) ?_
    rotate_left
    · intro w hSw
      (try dsimp only at hSw)
      go_simp
      (try with_reducible rfl)
    (try simp only [Act.put, List.setIfInBounds_toArray, List.set_cons_zero, List.set_cons_succ])
    refine wpAnyH_take (i := 3) (oi := _) (v := ?_) op_at3 (by kernel_rfl) (by kernel_rfl) (by kernel_rfl) (fun _ _ _ h => h) (Or.inl ⟨by rfl, ?_⟩) (by assumption) ?_
    rotate_left
    · intro w hSw
      (try dsimp only at hSw)
      go_simp
      (try with_reducible rfl)
    (try simp only [Act.put, List.setIfInBounds_toArray, List.set_cons_zero, List.set_cons_succ])
    refine wpAnyH_take (i := 4) (oi := _) (v := ?_) op_at4 (by kernel_rfl) (by kernel_rfl) (by kernel_rfl) (fun _ _ _ h => h) (Or.inl ⟨by rfl, ?_⟩) (by assumption) ?_
    rotate_left
    · intro w hSw
      (try dsimp only at hSw)
      go_simp
      (try with_reducible rfl)
    (try simp only [Act.put, List.setIfInBounds_toArray, List.set_cons_zero, List.set_cons_succ])
    refine wpAnyH_take (i := 5) (oi := _) (v := ?_) op_at5 (by kernel_rfl) (by kernel_rfl) (by kernel_rfl) (fun _ _ _ h => h) (Or.inl ⟨by rfl, ?_⟩) (by assumption) ?_
    rotate_left
    · intro w hSw
      (try dsimp only at hSw)
      go_simp
      (try with_reducible rfl)
    (try simp only [Act.put, List.setIfInBounds_toArray, List.set_cons_zero, List.set_cons_succ])
    refine wpAnyH_ready (rs := [6]) (by kernel_rfl) (by simp) ?_
    refine AllReadyH.cons (o := _) op_at6 (fun K hK => ?_) ?_
    · go_simp
      refine (Hq.out _).mono ?_
      rintro e wQ ⟨rfl, rfl⟩
      go_wp2_with fail
      refine hK.out _ _ ?_ (fun hHeld => ?_)
      · exact hHeld
      clear hK K
      (try simp only [Act.put, List.setIfInBounds_toArray, List.set_cons_zero, List.set_cons_succ])
      refine wpAnyH_ready (rs := [7]) (by kernel_rfl) (by simp) ?_
      refine AllReadyH.cons (o := _) op_at7 (fun K hK => ?_) ?_
      · go_simp
        refine (H3.out _).mono ?_
        rintro e w3 ⟨rfl, hb3⟩
        go_wp2_with fail
        refine hK.out _ _ ?_ (fun hHeld => ?_)
        · exact (show G1 (w.alloc (.cells #[.int .i64 g.k, .int .i64 g.a, .int .i64 g.b, .int .i64 g.c] 25)) w.heap.size g wR from hHeld).below hb3
        clear hK K
        (try simp only [Act.put, List.setIfInBounds_toArray, List.set_cons_zero, List.set_cons_succ])
        refine wpAnyH_take (i := 8) (oi := _) (v := ?_) op_at8 (by kernel_rfl) (by kernel_rfl) (by kernel_rfl) (fun _ _ _ h => h) (Or.inl ⟨by rfl, ?_⟩) (by assumption) ?_
        rotate_left
        · intro w hSw
          (try dsimp only at hSw)
          go_simp
          (try with_reducible rfl)
        (try simp only [Act.put, List.setIfInBounds_toArray, List.set_cons_zero, List.set_cons_succ])
        refine wpAnyH_take (i := 9) (oi := _) (v := ?_) op_at9 (by kernel_rfl) (by kernel_rfl) (by kernel_rfl) (fun _ _ _ h => h) (Or.inl ⟨by rfl, ?_⟩) (by assumption) ?_
        rotate_left
        · intro w hSw
          (try dsimp only at hSw)
          go_simp
          (try with_reducible rfl)
        (try simp only [Act.put, List.setIfInBounds_toArray, List.set_cons_zero, List.set_cons_succ])
        refine wpAnyH_done (by kernel_rfl) ?_ _
        have hS3 : G1 (w.alloc (.cells #[.int .i64 g.k, .int .i64 g.a, .int .i64 g.b, .int .i64 g.c] 25)) w.heap.size g w3 := hHeld
        have Hb3 := Lib.hid (Hb0.out.trans (hS3.low.mono (by simp)))
        have hs3 := Hb3.out.size
        clear hbR hb3 hS hS3 hHeld c0 c1 c2 c3 H1 H3 Hq
        go_wp2_with fail
        go_returns
        exact ⟨⟨_, rfl, DSl.nil⟩, by have := Hb3.out; go_grown⟩
      · exact AllReadyH.nil
    · exact AllReadyH.nil
  · exact AllReadyH.nil
theorem agO_no {g : Gt} {l : List Dw} (h : agO g l = none) : agV g l = [] ∧ agB g l = false := ⟨by unfold agV; rw [h]; rfl, by unfold agB; rw [h]; rfl⟩
theorem sapG (B : Nat) (g : Gt) (v : Value) (l : List Dw) (w : World) (hv : DSl w B v l) (hm : l.length ≤ 1048576) :
    Calls Tryz.prog 35 #[(.agg #[.int .i64 g.k, .int .i64 g.a, .int .i64 g.b, .int .i64 g.c]), v] w fun e w' => (∃ r, e = .returned (.tuple #[r, .bool (agB g l)]) ∧ DSl w' w.heap.size r (agV g l)) ∧ Below w.heap.size w w' := by
  cases hst : stB l with
  | false =>
    have h := agO_no (g := g) (l := l) (by unfold agO; rw [hst]; rfl)
    rw [h.1, h.2]; exact sapG_no0 B g v l w hv hm hst
  | true =>
    cases hg : gtB g (qc l.length) with
    | false =>
      have h := agO_no (g := g) (l := l) (by unfold agO; rw [hst, hg]; rfl)
      rw [h.1, h.2]; exact sapG_no1 B g v l w hv hst hg
    | true => exact sapG_yes B g v l w hv hst hg
end Go.Proofs.YtlmiebeffdcfhaaGreat
namespace Go.Proofs.YtlmiebeffdcfhaaGreat
open Go.RowKit
theorem sendO_len {x : Dw} : ∀ {L : List (Nat × Dw)} {o o' : List Dw}, sendO x L o = some o' → o'.length = o.length
  | [], o, o', h => by injection h with h; rw [h]
  | p :: L, o, o', h => by
    rw [sendO] at h
    split at h
    · rw [sendO_len h, List.length_set]
    · cases h
theorem apO_len {G : Nat → List (Nat × Dw)} : ∀ {l : List Dw} {i : Nat} {o o' : List Dw}, apO G i l o = some o' → o'.length = o.length
  | [], i, o, o', h => by injection h with h; rw [h]
  | x :: l, i, o, o', h => by
    rw [apO] at h
    split at h
    · exact apO_len h
    · split at h
      · rename_i o2 h2
        rw [apO_len h, sendO_len h2]
      · cases h
theorem agV_len (g : Gt) (l : List Dw) : (agV g l).length ≤ l.length := by
  unfold agV
  cases h : agO g l with
  | none => exact Nat.zero_le _
  | some o =>
    unfold agO at h
    split at h
    · have := apO_len h
      rw [List.length_replicate] at this
      simp [this]
    · cases h
/-- Gates applied one behind the other. -/
def agsF : List Gt → List Dw → Option (List Dw)
  | [], o => some o
  | g :: r, o => if agB g o then agsF r (agV g o) else none
def agsO (L : List Gt) (v : List Dw) : Option (List Dw) := if stB v then agsF L v else none
def agsV (L : List Gt) (v : List Dw) : List Dw := (agsO L v).getD []
def agsB (L : List Gt) (v : List Dw) : Bool := (agsO L v).isSome
theorem ags_step {L : List Gt} {j : Nat} {g : Gt} {o : List Dw} (hg : L[j]? = some g) : agsF (L.drop j) o = if agB g o then agsF (L.drop (j + 1)) (agV g o) else none := by
  have hj : j < L.length := by
    rcases Nat.lt_or_ge j L.length with h' | h'
    · exact h'
    · rw [List.getElem?_eq_none h'] at hg; cases hg
  rw [List.getElem?_eq_getElem hj] at hg
  injection hg with hg
  rw [← List.getElem_cons_drop hj, hg]
  rfl
theorem row_src {w : World} {g : Nat} {l : List Dw} (h : DRow w g l) : ∀ j u, (flat l)[j]? = some u → w.cell? ((⟨g, 0, none⟩ : Addr).add j) = some u := by
  intro j u hj
  obtain ⟨cs, h1, h2⟩ := h
  have ha : (⟨g, 0, none⟩ : Addr).add j = ⟨g, j, none⟩ := by
    unfold Addr.add
    by_cases h0 : j = 0
    · simp [h0]
    · simp [h0]
  rw [ha]
  refine cell_at h1 _ _ ?_
  rw [← h2, List.getElem?_take] at hj
  split at hj
  · rw [← Array.getElem?_toList]; exact hj
  · cases hj
theorem flat_plain : ∀ l : List Dw, ∀ u ∈ flat l, u.oneCell' = true
  | [], u, h => by simp [flat] at h
  | x :: l, u, h => by
    rw [flat, List.mem_append] at h
    rcases h with h | h
    · exact fl_plain x u h
    · exact flat_plain l u h
attribute [local irreducible] World.cell?
set_option maxRecDepth 100000 in
set_option maxHeartbeats 1600000 in
theorem scopy (B : Nat) (v : Value) (l : List Dw) (w : World) (hv : DSl w B v l) (h0 : 0 < l.length) (hm : l.length ≤ 1048576) :
    Calls Tryz.prog 116 #[v] w fun e w' => ∃ r, e = .returned r ∧ DSl w' w.heap.size r l ∧ Below w.heap.size w w' := by
  obtain ⟨i0, hi, hz0, hz1, hz2⟩ := info_parts infoDw
  obtain ⟨a, cap, rfl, hcap, hr⟩ := hv
  obtain ⟨g, rfl, hg, hrow⟩ := hr h0
  have Hsrc := Lib.hid (row_src (hrow.alloc (.cells #[] 70)))
  have Hown := Lib.hid (own_new (w := w) (n := w.heap.size) (t := 70) rfl)
  have Hp := Lib.hid (flat_plain l)
  have Hl := Lib.hid (flat_len l)
  clear hr hrow
  go_enter Tryz.func116, Tryz.ntmps116
  go_wp2_with (first
    | (at_builtin; refine wpList_append_own _ rfl _ _ 59 rfl w.heap.size 70 i0 (.agg #[.int .i64 0, .int .i64 0, .int .i64 0, .int .i64 0, .int .i64 0]) 5 40 Tryz.underlying59 hi hz0 hz1 hz2 rfl (by decide) _ _ _ rfl Hown.out ⟨g, 0, none⟩ l.length cap (flat l) rfl Hl.out Hsrc.out Hp.out ?d3 ?d4 ?d5 ?_))
  case d3 => unfold maxLen; omega
  case d4 => omega
  case d5 => first | omega | (simp; omega) | simp
  intro v' w4 hown' hgrow _
  have hown2 : w4.ownsRow w.heap.size 70 5 v' l.length (flat l) := by
    have h : w4.ownsRow w.heap.size 70 5 v' l.length ([] ++ flat l) := hown'
    rwa [List.nil_append] at h
  have Hs := Lib.hid (DSl.of_own hown2)
  have HB := Lib.hid (((Below.refl w.heap.size w).alloc (Nat.le_refl _) (.cells #[] 70)).grown hgrow (by simp) (fun q hq => by have := Hown.out.lt q hq; omega))
  clear hown' hown2 hgrow
  go_wp2_with fail
  go_ret
  exact ⟨_, rfl, Hs.out, HB.out⟩
set_option maxRecDepth 100000 in
set_option maxHeartbeats 3200000 in
theorem sapGs_yes (B C : Nat) (vg v : Value) (L : List Gt) (l : List Dw) (w : World) (hg : gtE.Sl w C vg L) (hv : DSl w B v l) (hst : stB l = true) (hL : L.length ≤ 1048576) :
    Calls Tryz.prog 82 #[vg, v] w fun e w' => (∃ r, e = .returned (.tuple #[r, .bool (agsB L l)]) ∧ DSl w' w.heap.size r (agsV L l)) ∧ Below w.heap.size w w' := by
  have hlen := stB_len hst
  have h2 := stB_iff.1 hst
  have hpos : 0 < l.length := by have := qc_len h2.2; omega
  have H1 := Lib.hid (svalidSt B v l w hv (by omega))
  have H2 := Lib.hid (fun W (h : DSl W B v l) => scopy B v l W h hpos (by omega))
  have H3 := Lib.hid (fun (g : Gt) (D : Nat) (u : Value) (o : List Dw) W (h : DSl W D u o) (hm : o.length ≤ 1048576) => sapG D g u o W h hm)
  have Hv := Lib.hid hv
  rw [hst] at H1
  have HO := Lib.hid (show agsO L l = agsF L l by unfold agsO; rw [hst]; rfl)
  have HV := Lib.hid (show agsV L l = (agsO L l).getD [] from rfl)
  have HT := Lib.hid (show agsB L l = (agsO L l).isSome from rfl)
  generalize agsV L l = V at *
  generalize agsB L l = T at *
  generalize agsO L l = O at *
  clear hst h2 hpos hv
  obtain ⟨ag, capg, rfl, hcg, hrg⟩ := hg
  have Hg := Lib.hid hrg
  clear hrg
  go_enter Tryz.func82, Tryz.ntmps82
  go_wp2_with fail
  refine (H1.out).mono ?_
  rintro e w1 ⟨rfl, hb1⟩
  have Hb1 := Lib.hid hb1
  have Hv1 := Lib.hid (Hv.out.below hb1)
  have hs1 := hb1.size
  clear hb1
  go_wp2_with fail
  refine (H2.out _ Hv1.out).mono ?_
  rintro e w2 ⟨u, rfl, hd2, hb2⟩
  have Hb2 := Lib.hid (below_nx Hb1.out hb2)
  have Hd2 := Lib.hid (hd2.mono hs1)
  have Hst := Lib.hid (show agsF (L.drop 0) l = O from HO.out.symm)
  clear hd2 hb2 H1 H2 HO
  go_wp2_with fail
  go_loopg [6, 7] L.length (fun m ov i wr => ∃ (j : Nat) (o : List Dw) (u' : Value), m = L.length - j ∧ j ≤ L.length ∧ i = .int .i64 j ∧ u' = ov ∧ o.length ≤ 16 ∧ Hid (agsF (L.drop j) o = O) ∧ Hid (DSl wr w.heap.size u' o) ∧ Hid (Below w.heap.size w wr))
  case atStart => exact ⟨0, l, u, rfl, Nat.zero_le _, rfl, rfl, hlen, Hst, Hd2, Hb2⟩
  case round =>
    obtain ⟨j, o, u', rfl, hj, rfl, rfl, ho, Hap, Hd, Hb⟩ := hrel
    have hsw := Hb.out.size
    by_cases hlt : j < L.length
    · obtain ⟨gg, rfl, _, hrow⟩ := Hg.out (by omega)
      obtain ⟨g, hx⟩ : ∃ g, L[j]? = some g := ⟨L[j], List.getElem?_eq_getElem hlt⟩
      obtain ⟨c0, c1, c2, c3⟩ := GRow.cells (hrow.below Hb.out hrow.lt) hx
      have hgl := Nat.lt_of_lt_of_le hrow.lt Hb.out.size
      have Hstep := Lib.hid (ags_step (o := o) hx)
      have hvl := agV_len g o
      have Hc := Lib.hid (H3.out g _ _ o wr Hd.out (by omega))
      clear hx hrow
      generalize agV g o = o2 at *
      generalize agB g o = t at *
      go_wp2_with fail
      refine (Hc.out).mono ?_
      rintro e w4 ⟨⟨r, rfl, hd4⟩, hb4⟩
      have Hd4 := Lib.hid (hd4.mono hsw)
      have Hb4 := Lib.hid (below_up Hb.out hb4 hsw)
      have hs4 := Hb4.out.size
      clear hd4 hb4 c0 c1 c2 c3 Hc
      have h := Hstep.out.symm.trans Hap.out
      cases t with
      | true =>
        have Hn := Lib.hid (show agsF (L.drop (j + 1)) o2 = O from h)
        clear h
        go_wp2_with fail
        go_roundg (L.length - (j + 1))
        case measure => omega
        case rel => exact ⟨j + 1, o2, r, rfl, by omega, by go_num, rfl, by omega, Hn, Hd4, Hb4⟩
      | false =>
        have hO : O = none := h.symm
        subst hO
        obtain rfl : V = [] := HV.out
        obtain rfl : T = false := HT.out
        clear h
        go_wp2_with fail
        go_returns
        exact ⟨⟨_, rfl, DSl.nil⟩, by have := Hb4.out; go_grown⟩
    · obtain rfl : j = L.length := by omega
      have hO := Hap.out
      rw [List.drop_of_length_le (Nat.le_refl _)] at hO
      obtain rfl : V = o := HV.out.trans (by rw [← hO]; rfl)
      obtain rfl : T = true := HT.out.trans (by rw [← hO]; rfl)
      clear hO
      go_wp2_with fail
      go_returns
      exact ⟨⟨_, rfl, Hd.out⟩, Hb.out⟩
end Go.Proofs.YtlmiebeffdcfhaaGreat
