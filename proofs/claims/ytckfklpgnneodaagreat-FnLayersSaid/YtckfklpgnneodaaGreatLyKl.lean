/- The program's CircuitLayers, CircuitDepth. -/
import Derived.Test.YtckfklpgnneodaaGreatLyKr
import Derived.Test.YtckfklpgnneodaaGreatBaseB18
import Derived.Test.YtckfklpgnneodaaGreatBaseB14
namespace Go.Proofs.YtckfklpgnneodaaGreat
open Go.RowKit Go.Lib Go.Maps
/-- A block of cells is no map. -/
theorem own_ne_map {w : World} {R : Value → Option (DataW Unit × List MemPlace)} {base b n k size : Nat} {e : TypeId} {v : Value} {xs : List Value} {D : DataW Unit} (h : w.ownsRow base e size v n xs) (m : w.ownsMap Tryz.prog 3 R b k D) : some b ≠ v.ownBlock := by
  intro hq
  rcases h.2 with ⟨rfl, _⟩ | ⟨g, cap, cur, rfl, _, h2, _⟩
  · cases hq
  · obtain rfl : b = g := Option.some.inj hq
    obtain ⟨es, clock, h1, -⟩ := m
    rw [h1] at h2
    cases h2
theorem cells_ne_map {w : World} {R : Value → Option (DataW Unit × List MemPlace)} {b k q : Nat} {e : TypeId} {cs : Array Value} {fr : Nat × Nat} {D : DataW Unit} (h : w.heap[q]? = some (.cells cs e fr)) (m : w.ownsMap Tryz.prog 3 R b k D) : q ≠ b := by
  intro hq
  subst hq
  obtain ⟨es, clock, h1, -⟩ := m
  rw [h1] at h
  cases h
theorem gq_bnd {g : Gt} {n : Int} (h : gtB g n = true) : ∀ q ∈ gqs g, -9223372036854775808 ≤ q ∧ q ≤ 9223372036854775807 := by
  obtain ⟨h1, -, h2, h3, h4⟩ := gtB_parts h
  intro q hq
  have hq := List.mem_of_mem_take hq
  simp at hq
  rcases hq with rfl | rfl | rfl <;> omega
attribute [local irreducible] World.cell?
set_option maxRecDepth 100000 in
set_option maxHeartbeats 12800000 in
theorem ilayers (B : Nat) (n : Int) (v : Value) (L : List Gt) (w : World) (hv : gtE.Sl w B v L) (hm : L.length ≤ 1048576) (n0 : -9223372036854775808 ≤ n) (n1 : n ≤ 9223372036854775807) :
    Calls Tryz.prog 6 #[.agg #[.int .i64 n, v]] w fun e w' => (∃ r, e = .returned r ∧ GSM w' w.heap.size w'.heap.size r (lysM n L)) ∧ Below w.heap.size w w' := by
  obtain ⟨i0, hi, hz0, hz1, hz2⟩ := info_parts infoG3
  obtain ⟨iS, hiS, hzS0, hzS1, hzS2⟩ := info_parts infoSg
  obtain ⟨T, hT⟩ : ∃ T, T = lysM n L := ⟨_, rfl⟩
  rw [← hT]
  have HT := Lib.hid hT
  clear hT
  have hmm := @run_makeMap Tryz.prog
  have Hb0 := Lib.hid (show Below w.heap.size w (w.alloc (.cells #[.int .i64 n, v] 26)) by go_grown)
  have Hs := Lib.hid (ivalidC B n v L _ (hv.below Hb0.out) hm n0 n1)
  have HX := Lib.hid (heap_alloc_new w (.cells #[.int .i64 n, v] 26))
  have hz1w : (w.alloc (.cells #[.int .i64 n, v] 26)).heap.size = w.heap.size + 1 := by simp
  obtain ⟨a, cap, rfl, hcap, hr⟩ := hv
  have Hr := Lib.hid hr
  clear hr
  obtain ⟨c0, c1⟩ := blk_cells2 HX.out
  have hxl := lt_of_block HX.out
  cases hok : ciB n L with
  | false =>
    obtain rfl : T = [] := HT.out.trans (by unfold lysM; rw [hok]; rfl)
    rw [hok] at Hs
    clear hok HT
    go_enter Tryz.func6, Tryz.ntmps6
    go_wp2_with fail
    refine (Hs.out).mono ?_
    rintro e w1 ⟨rfl, hb1⟩
    have Hb1 := Lib.hid (below_nx Hb0.out hb1)
    clear hb1
    go_wp2_with fail
    go_ret
    exact ⟨⟨_, rfl, GSM.nil⟩, Hb1.out⟩
  | true =>
    obtain rfl : T = layL [] L := HT.out.trans (by unfold lysM; rw [hok]; rfl)
    obtain ⟨hgs, -, h60⟩ := ciB_parts hok
    have Hgs := Lib.hid (fun g (hg : g ∈ L) => gq_bnd (hgs g hg))
    rw [hok] at Hs
    clear hok HT hgs
    go_enter Tryz.func6, Tryz.ntmps6
    go_wp2_with fail
    refine (Hs.out).mono ?_
    rintro e w1 ⟨rfl, hb1⟩
    have HX1 := Lib.hid (below_blk hb1 (by omega) HX.out)
    have Hb1 := Lib.hid (below_nx Hb0.out hb1)
    have hs1 := hb1.size
    have hw1s : w.heap.size + 1 ≤ w1.heap.size := by rw [hz1w] at hs1; exact hs1
    clear hb1 Hs HX Hb0 c0 c1 hxl
    obtain ⟨c0, c1⟩ := blk_cells2 HX1.out
    have hxl := lt_of_block HX1.out
    have HM0 := Lib.hid (World.ownsMap_made (H := Unit) w1 Tryz.prog 3 (plainElem Tryz.prog 3))
    have HD0 := Lib.hid (show MD (.map []) (lq []) from MD.empty)
    have Hb2 := Lib.hid (Hb1.out.alloc (by omega) (.map #[] 0))
    go_wp2_with fail
    go_loopg [3, 15] L.length (fun m out i wr => ∃ (j : Nat) (vs : List Value) (M : List (List Gt)) (E : DataW Unit), m = L.length - j ∧ j ≤ L.length ∧ i = .int .i64 j ∧ Hid (M = layL [] (L.take j)) ∧ Hid (wr.ownsRow w.heap.size 24 1 out M.length vs) ∧ Hid (OwR wr w.heap.size vs M) ∧ Hid (wr.ownsMap Tryz.prog 3 (plainElem Tryz.prog 3) w1.heap.size (3 * j) E) ∧ Hid (MD E (lq M)) ∧ Hid (Below w.heap.size w wr))
    case atStart => exact ⟨0, [], [], .map [], rfl, Nat.zero_le _, rfl, Lib.hid rfl, Lib.hid ⟨rfl, .inl ⟨rfl, rfl⟩⟩, OwR.nil, HM0, HD0, Hb2⟩
    case round =>
      obtain ⟨j, vs, M, E, rfl, hj, rfl, HM, Hown, Hrow, HwE, HE, Hb⟩ := hrel
      clear c0 c1 hxl
      have hs := Hb.out.size
      obtain ⟨po, co, rfl⟩ := ownr_form Hown.out
      by_cases hlt : j < L.length
      · obtain ⟨gl, rfl, _, hrow⟩ := Hr.out (by omega)
        have hgl0 := hrow.lt
        obtain ⟨g, hg⟩ : ∃ x, L[j]? = some x := ⟨L[j], List.getElem?_eq_getElem hlt⟩
        have r1 := hrow.below Hb.out hrow.lt
        obtain ⟨d0, d1, d2, d3⟩ := GRow.cells r1 hg
        have hgl := r1.lt
        have Hst := Lib.hid (layL_take hg)
        have hMl : M.length ≤ j := by
          have h := layL_len (L.take j) []
          rw [← HM.out, List.length_take] at h
          simp only [List.length_nil, Nat.zero_add] at h
          omega
        rw [← HM.out] at Hst
        have hjI : (0 : Int) ≤ (j : Int) := by omega
        have hjL : (j : Int) < (L.length : Int) := by omega
        have hp := layAt_le M g
        have hmb := HwE.out.lt
        have HS := Lib.hid (isched w1.heap.size (3 * j) E M g _ (HwE.out.alloc (.cells #[.int .i64 g.k, .int .i64 g.a, .int .i64 g.b, .int .i64 g.c] 44)) HE.out (by omega) (by omega) (Hgs.out g (List.mem_of_getElem? hg)))
        have HG0 := Lib.hid (heap_alloc_new wr (.cells #[.int .i64 g.k, .int .i64 g.a, .int .i64 g.b, .int .i64 g.c] 44))
        have Hba := Lib.hid (Hb.out.alloc hs (.cells #[.int .i64 g.k, .int .i64 g.a, .int .i64 g.b, .int .i64 g.c] 44))
        have Hown0 := Lib.hid (Hown.out.alloc (.cells #[.int .i64 g.k, .int .i64 g.a, .int .i64 g.b, .int .i64 g.c] 44))
        have Hrow0 := Lib.hid (Hrow.out.below ((Below.refl wr.heap.size wr).alloc (Nat.le_refl _) (.cells #[.int .i64 g.k, .int .i64 g.a, .int .i64 g.b, .int .i64 g.c] 44)))
        have HwE0 := Lib.hid (HwE.out.alloc (.cells #[.int .i64 g.k, .int .i64 g.a, .int .i64 g.b, .int .i64 g.c] 44))
        have hza : (wr.alloc (.cells #[.int .i64 g.k, .int .i64 g.a, .int .i64 g.b, .int .i64 g.c] 44)).heap.size = wr.heap.size + 1 := by simp
        obtain ⟨b0, b1, b2, b3⟩ := blk_cells HG0.out
        have hbl := lt_of_block HG0.out
        clear hrow r1 hg
        by_cases he : layAt M g = M.length
        · have hde : decide (((layAt M g : Nat) : Int) = (M.length : Int)) = true := decide_eq_true (by omega)
          have HlG := Lib.hid (show layG M g = M ++ [[g]] by unfold layG; rw [if_pos he])
          go_wp2_with fail
          refine (HS.out).mono ?_
          rintro e w4 ⟨E4, rfl, hE4, hown4, ho4⟩
          have Hb4 := Lib.hid (below_own Hba.out ho4 (by omega) (by omega))
          have Hown4 := Lib.hid (ownr_keep (w' := w4) Hown0.out (fun k hk hkl => ho4.block k hkl (fun e => own_ne_map Hown0.out HwE0.out (by rw [hk]; exact e.symm))))
          have Hrow4 := Lib.hid (Hrow0.out.keep (w' := w4) fun k _ hkl hcs => by
            obtain ⟨cs, hcs⟩ := hcs
            exact ho4.block k hkl (fun e => cells_ne_map hcs HwE0.out (Option.some.inj e)))
          have HG4 := Lib.hid (own_blk ho4 (cells_ne_map HG0.out HwE0.out) HG0.out)
          have HwE4 := Lib.hid hown4
          have HE4 := Lib.hid hE4
          have hs4 := Hb4.out.size
          have hs4a := ho4.size
          clear hE4 hown4 ho4 b0 b1 b2 b3 hbl d0 d1 d2 d3
          obtain ⟨b0, b1, b2, b3⟩ := blk_cells HG4.out
          have hbl := lt_of_block HG4.out
          generalize layAt M g = p at *
          subst he
          have HSn := Lib.hid (fun v' (w5 : World) (h : w5.ownsRow w.heap.size 24 1 v' (M.length + 1) (vs ++ [.slice none 0 0])) => ownr_cell (j := M.length) (x := .slice none 0 0) h (by rw [List.getElem?_append_right (by rw [Hrow4.out.1]; exact Nat.le_refl _), Hrow4.out.1, Nat.sub_self]; rfl))
          have hzs : (w4.alloc (.cells #[.slice none 0 0] 24)).heap.size = w4.heap.size + 1 := by simp
          go_wp2_with (first
            | (at_builtin; refine wpList_append_own _ rfl _ _ 28 rfl w.heap.size 24 iS (.slice none 0 0) 1 24 Tryz.underlying28 hiS hzS0 hzS1 hzS2 rfl (by decide) _ _ _ rfl (Hown4.out.alloc _) ⟨w4.heap.size, 0, none⟩ 1 1 [.slice none 0 0] rfl rfl ?d2 (by intro u hu; simp at hu; subst hu; rfl) ?d3 ?d4 ?d5 ?_))
          case d2 => exact slice_newG _ _ _
          case d3 => unfold maxLen; omega
          case d4 => omega
          case d5 => first | omega | (simp; omega)
          intro v' w5 hown' hgrow _
          have HB5 := Lib.hid ((Hb4.out.alloc hs4 (.cells #[.slice none 0 0] 24)).grown hgrow (by rw [hzs]; omega) (fun q hq => (Hown4.out.lt q hq).1))
          have Hown5 := Lib.hid hown'
          have HwE5 := Lib.hid ((HwE4.out.alloc (.cells #[.slice none 0 0] 24)).kept hgrow (own_ne_map Hown4.out HwE4.out))
          have Hrow5 := Lib.hid ((Hrow4.out.below ((Below.refl w4.heap.size w4).alloc (Nat.le_refl _) (.cells #[.slice none 0 0] 24))).keep (w' := w5) fun k _ hk hcs => by
            obtain ⟨cs, hcs⟩ := hcs
            exact hgrow.block k hk (ownr_ne (Hown4.out.alloc _) hcs (by decide)))
          have HG5 := Lib.hid (grown_blk hgrow (alloc_blk _ HG4.out) (ownr_ne Hown4.out HG4.out (by decide)))
          obtain ⟨go, gc, rfl, hgc, hgo, hgol, hoc, hpl, curo, HGo⟩ := HSn.out v' w5 hown'
          have hs5 := hgrow.size
          have hz5 := HB5.out.size
          clear hown' hgrow HSn b0 b1 b2 b3 hbl
          obtain ⟨b0, b1, b2, b3⟩ := blk_cells HG5.out
          have hbl := lt_of_block HG5.out
          have fO := fun o => free_at HGo o
          have hpI : (0 : Int) ≤ ((M.length : Nat) : Int) := by omega
          have hpL : ((M.length : Nat) : Int) < ((M.length + 1 : Nat) : Int) := by omega
          have hpL2 : ((M.length : Nat) : Int) < ((M.length : Nat) : Int) + 1 := by omega
          have HSl := Lib.hid (show gtE.Sl (w5.alloc (.cells #[.int .i64 g.k, .int .i64 g.a, .int .i64 g.b, .int .i64 g.c] 44)) w5.heap.size (.slice (some ⟨w5.heap.size, 0, none⟩) 1 1) [g] from ⟨_, _, rfl, Nat.le_refl _, fun _ => ⟨w5.heap.size, rfl, Nat.le_refl _, _, heap_alloc_new w5 _, rfl⟩⟩)
          have HOw := Lib.hid (show (w5.alloc (.cells #[.int .i64 g.k, .int .i64 g.a, .int .i64 g.b, .int .i64 g.c] 44)).ownsRow w.heap.size gtE.ty gtE.n (.slice none 0 0) 0 (gtE.flat []) from ⟨rfl, .inl ⟨rfl, rfl⟩⟩)
          have HO2 := Lib.hid (show (w5.alloc (.cells #[.int .i64 g.k, .int .i64 g.a, .int .i64 g.b, .int .i64 g.c] 44)).drew.heap[go]? = some (.cells curo 24 (0, 0)) from alloc_blk (.cells #[.int .i64 g.k, .int .i64 g.a, .int .i64 g.b, .int .i64 g.c] 44) HGo)
          have hne2 : some go ≠ (Value.slice none 0 0).ownBlock := fun h => by cases h
          go_upto_region 11 with fail
          go_region_law? (first
            | (refine step_append_sl (E := gtE) _ (by rfl) _ _ _ (by rfl) w.heap.size i0 (.agg #[.int .i64 0, .int .i64 0, .int .i64 0, .int .i64 0]) 32 Tryz.underlying24 hi hz0 hz1 hz2 rfl (by decide) (.slice none 0 0) 0 (gtE.flat ([] : List Gt)) ?a1 ?a2 w5.heap.size (.slice (some ⟨w5.heap.size, 0, none⟩) 1 1) [g] ?a3 ?a4 ?a5 ?a6 ?a7 ?_; (case a1 => go_simp); (case a2 => exact HOw.out); (case a3 => go_simp); (case a4 => exact HSl.out); (case a5 => (unfold maxLen; (try simp only [List.length_singleton]); omega)); (case a6 => (simp only [List.length_singleton]; omega)); (case a7 => (first | omega | (simp; done) | (simp; omega))); intro v3 w3 hown3 hgrow3 hat3; (obtain ⟨gq, kq, rfl, hq3⟩ := OwG.of_own (B := w.heap.size) (r := ([] : List Gt) ++ [g]) (by have h := hown3; simp [Enc.flat] at h ⊢; exact h) (by simp)); have hG3 : World.grownBy (w5.alloc (.cells #[.int .i64 g.k, .int .i64 g.a, .int .i64 g.b, .int .i64 g.c] 44)).drew w3 (Value.slice none 0 0).ownBlock := hgrow3; have hO3 := grown_blk hG3 HO2.out hne2; have hoc3 : w3.cell? ⟨go, M.length, none⟩ = some (.slice none 0 0) := (World.cell?_of_block (w := w5) (a := ⟨go, M.length, none⟩) (hO3.trans HGo.symm)).trans hoc; have fO3 := fun o => free_at hO3 o))
          all_goals
            have Hq3 := Lib.hid hq3
            have hat4 : w5.heap.size ≤ gq := by
              rcases hat3 with h | h
              · cases h
              · have h : gq = (w5.alloc (.cells #[.int .i64 g.k, .int .i64 g.a, .int .i64 g.b, .int .i64 g.c] 44)).heap.size := Option.some.inj h
                simp only [size_alloc1] at h
                omega
            have HO3 := Lib.hid hO3
            have hHB : ∀ b, b < w5.heap.size → w3.heap[b]? = w5.heap[b]? := fun b hb => (hG3.block b (by show b < (w5.alloc (.cells #[.int .i64 g.k, .int .i64 g.a, .int .i64 g.b, .int .i64 g.c] 44)).heap.size; simp only [size_alloc1]; omega) (fun h => by cases h)).trans (Below.heap_alloc w5 _ b hb)
            have hown4 := ownr_keep (w' := w3) Hown5.out (fun k hk hkl => hHB k hkl)
            have hset : (vs ++ [Value.slice none 0 0]).set M.length (.slice (some ⟨gq, 0, none⟩) ([] ++ [g]).length kq) = vs ++ [.slice (some ⟨gq, 0, none⟩) ([g] : List Gt).length kq] := by
              rw [← Hrow5.out.1, List.set_append_right _ _ (Nat.le_refl _), Nat.sub_self]
              rfl
            have Hown6 := Lib.hid (show (w3.setCell ⟨go, M.length, none⟩ (.slice (some ⟨gq, 0, none⟩) ([g] : List Gt).length kq)).ownsRow w.heap.size 24 1 (.slice (some ⟨go, 0, none⟩) (M.length + 1) gc) (M ++ [[g]]).length (vs ++ [.slice (some ⟨gq, 0, none⟩) ([g] : List Gt).length kq]) by
              rw [← hset, List.length_append]
              exact ownr_set hown4 M.length _)
            have Hrow6 := Lib.hid (OwR.snoc Hrow5.out (w' := w3.setCell ⟨go, M.length, none⟩ (.slice (some ⟨gq, 0, none⟩) ([g] : List Gt).length kq)) (Hq3.out.block (Below.heap_setCell _ _ _ _ (by show gq ≠ go; omega))) hat4 (fun b hb hcs => by
              obtain ⟨cs, hcs⟩ := hcs
              refine (Below.heap_setCell _ _ _ _ ?_).trans (hHB b hb)
              show b ≠ go
              intro h
              rw [h, HGo] at hcs
              injection hcs with hcs
              injection hcs with _ hcs
              exact absurd hcs (by decide)))
            have HwE6 := Lib.hid ((((HwE5.out.alloc (.cells #[.int .i64 g.k, .int .i64 g.a, .int .i64 g.b, .int .i64 g.c] 44)).drew.kept hG3 (fun h => by cases h)).setCell (a := ⟨go, M.length, none⟩) (Ne.symm (cells_ne_map HGo HwE5.out)) (.slice (some ⟨gq, 0, none⟩) ([g] : List Gt).length kq)).mono (show 3 * j + 3 ≤ 3 * (j + 1) by omega))
            have HB6 := Lib.hid (Below.setCell (((HB5.out.alloc hz5 (.cells #[.int .i64 g.k, .int .i64 g.a, .int .i64 g.b, .int .i64 g.c] 44)).drew).grown hG3 (by show w.heap.size ≤ (w5.alloc (.cells #[.int .i64 g.k, .int .i64 g.a, .int .i64 g.b, .int .i64 g.c] 44)).heap.size; simp only [size_alloc1]; omega) (fun q hq => by cases hq)) (p := ⟨go, M.length, none⟩) hgo (.slice (some ⟨gq, 0, none⟩) ([g] : List Gt).length kq))
            have HM6 := Lib.hid (HlG.out.symm.trans Hst.out.symm)
            have HE6 := Lib.hid (show MD E4 (lq (M ++ [[g]])) by rw [← HlG.out]; exact HE4.out)
            clear hown3 hgrow3 hG3 hat3 hO3 hq3 fO3 fO hHB hown4
            go_wp2_with fail
            go_roundg (L.length - (j + 1))
            case measure => omega
            case rel => exact ⟨j + 1, _, M ++ [[g]], E4, rfl, by omega, by go_num, HM6, Hown6, Hrow6, HwE6, HE6, HB6⟩
        · obtain ⟨r, hrM⟩ : ∃ r, M[layAt M g]? = some r := ⟨M[layAt M g]'(by omega), List.getElem?_eq_getElem _⟩
          have hde : decide (((layAt M g : Nat) : Int) = (M.length : Int)) = false := decide_eq_false (by omega)
          have HlG := Lib.hid (show layG M g = M.set (layAt M g) (r ++ [g]) by unfold layG; rw [if_neg he, List.getD_eq_getElem?_getD, hrM]; rfl)
          have hrl : r.length ≤ 1048576 := by
            have h2 := lay_row (HM.out ▸ hrM)
            rw [List.length_take] at h2
            omega
          have HrM := Lib.hid hrM
          clear hrM
          go_wp2_with fail
          refine (HS.out).mono ?_
          rintro e w4 ⟨E4, rfl, hE4, hown4, ho4⟩
          have Hb4 := Lib.hid (below_own Hba.out ho4 (by omega) (by omega))
          have Hown4 := Lib.hid (ownr_keep (w' := w4) Hown0.out (fun k hk hkl => ho4.block k hkl (fun e => own_ne_map Hown0.out HwE0.out (by rw [hk]; exact e.symm))))
          have Hrow4 := Lib.hid (Hrow0.out.keep (w' := w4) fun k _ hkl hcs => by
            obtain ⟨cs, hcs⟩ := hcs
            exact ho4.block k hkl (fun e => cells_ne_map hcs HwE0.out (Option.some.inj e)))
          have HG4 := Lib.hid (own_blk ho4 (cells_ne_map HG0.out HwE0.out) HG0.out)
          have HwE4 := Lib.hid hown4
          have HE4 := Lib.hid hE4
          have hs4 := Hb4.out.size
          have hs4a := ho4.size
          clear hE4 hown4 ho4 b0 b1 b2 b3 hbl d0 d1 d2 d3
          obtain ⟨b0, b1, b2, b3⟩ := blk_cells HG4.out
          have hbl := lt_of_block HG4.out
          obtain ⟨gp, kp, hvp, hog⟩ := Hrow4.out.at HrM.out
          obtain ⟨go, gc, hv', hgc, hgo, hgol, hoc, -, curo, HGo⟩ := ownr_cell Hown4.out hvp
          injection hv' with e1 _ e3
          subst e1 e3
          have hgps := hog.1
          have hne : go ≠ gp := by
            obtain ⟨-, -, -, cur, h4, -⟩ := hog
            intro h
            subst h
            rw [HGo] at h4
            injection h4 with h4
            injection h4 with _ h4
            exact absurd h4 (by decide)
          have hmgp : gp ≠ w1.heap.size := by
            obtain ⟨-, -, -, cur, h4, -⟩ := hog
            exact cells_ne_map h4 HwE4.out
          have hne2 : some go ≠ (Value.slice (some ⟨gp, 0, none⟩) r.length kp).ownBlock := fun h => hne (Option.some.inj h)
          have fO := fun o => free_at HGo o
          have hpI : (0 : Int) ≤ ((layAt M g : Nat) : Int) := by omega
          have hpL : ((layAt M g : Nat) : Int) < (M.length : Int) := by omega
          have HSl := Lib.hid (show gtE.Sl (w4.alloc (.cells #[.int .i64 g.k, .int .i64 g.a, .int .i64 g.b, .int .i64 g.c] 44)) w4.heap.size (.slice (some ⟨w4.heap.size, 0, none⟩) 1 1) [g] from ⟨_, _, rfl, Nat.le_refl _, fun _ => ⟨w4.heap.size, rfl, Nat.le_refl _, _, heap_alloc_new w4 _, rfl⟩⟩)
          have HOw := Lib.hid (show (w4.alloc (.cells #[.int .i64 g.k, .int .i64 g.a, .int .i64 g.b, .int .i64 g.c] 44)).ownsRow w.heap.size gtE.ty gtE.n (.slice (some ⟨gp, 0, none⟩) r.length kp) r.length (gtE.flat r) from hog.own.alloc _)
          have HO2 := Lib.hid (show (w4.alloc (.cells #[.int .i64 g.k, .int .i64 g.a, .int .i64 g.b, .int .i64 g.c] 44)).drew.heap[go]? = some (.cells curo 24 (0, 0)) from alloc_blk (.cells #[.int .i64 g.k, .int .i64 g.a, .int .i64 g.b, .int .i64 g.c] 44) HGo)
          clear hog
          go_upto_region 11 with fail
          go_region_law? (first
            | (refine step_append_sl (E := gtE) _ (by rfl) _ _ _ (by rfl) w.heap.size i0 (.agg #[.int .i64 0, .int .i64 0, .int .i64 0, .int .i64 0]) 32 Tryz.underlying24 hi hz0 hz1 hz2 rfl (by decide) (.slice (some ⟨gp, 0, none⟩) r.length kp) r.length (gtE.flat r) ?a1 ?a2 w4.heap.size (.slice (some ⟨w4.heap.size, 0, none⟩) 1 1) [g] ?a3 ?a4 ?a5 ?a6 ?a7 ?_; (case a1 => go_simp); (case a2 => exact HOw.out); (case a3 => go_simp); (case a4 => exact HSl.out); (case a5 => (unfold maxLen; (try simp only [List.length_singleton]); omega)); (case a6 => (simp only [List.length_singleton]; omega)); (case a7 => (first | omega | (simp; done) | (simp; omega))); intro v3 w3 hown3 hgrow3 hat3; (obtain ⟨gq, kq, rfl, hq3⟩ := OwG.of_own (B := w.heap.size) (r := r ++ [g]) (by rw [List.length_append, gtE.flat_app]; exact hown3) (by simp)); have hG3 : World.grownBy (w4.alloc (.cells #[.int .i64 g.k, .int .i64 g.a, .int .i64 g.b, .int .i64 g.c] 44)).drew w3 (Value.slice (some ⟨gp, 0, none⟩) r.length kp).ownBlock := hgrow3; have hO3 := grown_blk hG3 HO2.out hne2; have hoc3 : w3.cell? ⟨go, (layAt M g), none⟩ = some (.slice (some ⟨gp, 0, none⟩) r.length kp) := (World.cell?_of_block (w := w4) (a := ⟨go, (layAt M g), none⟩) (hO3.trans HGo.symm)).trans hoc; have fO3 := fun o => free_at hO3 o))
          all_goals
            have Hq3 := Lib.hid hq3
            have hat4 : gq = gp ∨ w4.heap.size ≤ gq := by
              rcases hat3 with h | h
              · exact .inl (Option.some.inj h)
              · right
                have h : gq = (w4.alloc (.cells #[.int .i64 g.k, .int .i64 g.a, .int .i64 g.b, .int .i64 g.c] 44)).heap.size := Option.some.inj h
                simp only [size_alloc1] at h
                omega
            have HO3 := Lib.hid hO3
            have hHB : ∀ b, b < w4.heap.size → b ≠ gp → w3.heap[b]? = w4.heap[b]? := fun b hb hn => (hG3.block b (by show b < (w4.alloc (.cells #[.int .i64 g.k, .int .i64 g.a, .int .i64 g.b, .int .i64 g.c] 44)).heap.size; simp only [size_alloc1]; omega) (fun h => hn (Option.some.inj h))).trans (Below.heap_alloc w4 _ b hb)
            have hown5 := ownr_keep (w' := w3) Hown4.out (fun k hk hkl => hHB k hkl (fun e => hne ((Option.some.inj hk).trans e)))
            have hrow5 := Hrow4.out.turn (w' := w3) HrM.out hvp Hq3.out hat4 hHB
            have Hown6 := Lib.hid (show (w3.setCell ⟨go, layAt M g, none⟩ (.slice (some ⟨gq, 0, none⟩) (r ++ [g]).length kq)).ownsRow w.heap.size 24 1 (.slice (some ⟨go, 0, none⟩) M.length co) (M.set (layAt M g) (r ++ [g])).length (vs.set (layAt M g) (.slice (some ⟨gq, 0, none⟩) (r ++ [g]).length kq)) by
              rw [List.length_set]
              exact ownr_set hown5 (layAt M g) _)
            have Hrow6 := Lib.hid (hrow5.keep (w' := w3.setCell ⟨go, layAt M g, none⟩ (.slice (some ⟨gq, 0, none⟩) (r ++ [g]).length kq)) fun k _ _ hcs => by
              obtain ⟨cs, hcs⟩ := hcs
              refine Below.heap_setCell _ _ _ _ ?_
              show k ≠ go
              intro h
              rw [h, HO3.out] at hcs
              injection hcs with hcs
              injection hcs with _ hcs
              exact absurd hcs (by decide))
            have HwE6 := Lib.hid ((((HwE4.out.alloc (.cells #[.int .i64 g.k, .int .i64 g.a, .int .i64 g.b, .int .i64 g.c] 44)).drew.kept hG3 (fun h => hmgp (Option.some.inj h).symm)).setCell (a := ⟨go, layAt M g, none⟩) (Ne.symm (cells_ne_map HGo HwE4.out)) (.slice (some ⟨gq, 0, none⟩) (r ++ [g]).length kq)).mono (show 3 * j + 3 ≤ 3 * (j + 1) by omega))
            have HB6 := Lib.hid (Below.setCell (((Hb4.out.alloc hs4 (.cells #[.int .i64 g.k, .int .i64 g.a, .int .i64 g.b, .int .i64 g.c] 44)).drew).grown hG3 (by show w.heap.size ≤ (w4.alloc (.cells #[.int .i64 g.k, .int .i64 g.a, .int .i64 g.b, .int .i64 g.c] 44)).heap.size; simp only [size_alloc1]; omega) (fun q hq => by have h : gp = q := Option.some.inj hq; omega)) (p := ⟨go, layAt M g, none⟩) hgo (.slice (some ⟨gq, 0, none⟩) (r ++ [g]).length kq))
            have HM6 := Lib.hid (HlG.out.symm.trans Hst.out.symm)
            have HE6 := Lib.hid (show MD E4 (lq (M.set (layAt M g) (r ++ [g]))) by rw [← HlG.out]; exact HE4.out)
            have hl1 : (r ++ [g]).length = r.length + 1 := by simp
            rw [hl1] at Hown6 Hrow6 HwE6 HB6
            clear hown3 hgrow3 hG3 hat3 hO3 hq3 fO3 fO hHB hown5 hrow5 hl1
            go_wp2_with fail
            go_roundg (L.length - (j + 1))
            case measure => omega
            case rel => exact ⟨j + 1, _, M.set (layAt M g) (r ++ [g]), E4, rfl, by omega, by go_num, HM6, Hown6, Hrow6, HwE6, HE6, HB6⟩
      · obtain rfl : j = L.length := by omega
        have hM := HM.out
        rw [List.take_length] at hM
        subst hM
        have hd := GSM.of_own Hown.out Hrow.out.rwg (Nat.le_refl _)
        have Hd := Lib.hid hd
        clear hd
        go_wp2_with fail
        go_ret
        exact ⟨⟨_, rfl, Hd.out⟩, Hb.out⟩
set_option maxRecDepth 100000 in
set_option maxHeartbeats 3200000 in
theorem idepth (B : Nat) (n : Int) (v : Value) (L : List Gt) (w : World) (hv : gtE.Sl w B v L) (hm : L.length ≤ 1048576) (n0 : -9223372036854775808 ≤ n) (n1 : n ≤ 9223372036854775807) :
    Calls Tryz.prog 9 #[.agg #[.int .i64 n, v]] w fun e w' => e = .returned (.int .i64 (lysM n L).length) ∧ Below w.heap.size w w' := by
  have Hb0 := Lib.hid (show Below w.heap.size w (w.alloc (.cells #[.int .i64 n, v] 26)) by go_grown)
  have H := Lib.hid (ilayers B n v L _ (hv.below Hb0.out) hm n0 n1)
  have HX := Lib.hid (heap_alloc_new w (.cells #[.int .i64 n, v] 26))
  obtain ⟨a, cap, rfl, -, -⟩ := hv
  obtain ⟨c0, c1⟩ := blk_cells2 HX.out
  have hxl := lt_of_block HX.out
  generalize lysM n L = M at *
  go_enter Tryz.func9, Tryz.ntmps9
  go_wp2_with fail
  refine (H.out).mono ?_
  rintro e w1 ⟨⟨r, rfl, p, q, rfl, -, -⟩, hb1⟩
  have Hb1 := Lib.hid (below_nx Hb0.out hb1)
  clear hb1
  go_wp2_with fail
  go_ret
  exact ⟨rfl, Hb1.out⟩
end Go.Proofs.YtckfklpgnneodaaGreat
