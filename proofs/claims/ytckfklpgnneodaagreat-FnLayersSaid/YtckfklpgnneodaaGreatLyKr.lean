/- The program's lastLayers.release, lastLayers.schedule. -/
import Derived.Test.YtckfklpgnneodaaGreatLyKk
import Derived.Test.YtckfklpgnneodaaGreatLyS
import Derived.Test.YtckfklpgnneodaaGreatBaseB14
namespace Go.Proofs.YtckfklpgnneodaaGreat
open Go.RowKit Go.Lib Go.Maps
theorem llLaw : Keyed Tryz.prog 3 := int_keyed Tryz.underlying3
theorem llZero (w : World) : (zeroValue 3).run Tryz.prog w = .ok (.int .i64 0) w := by kernel_rfl
theorem llKey {q : Int} (h0 : -9223372036854775808 ≤ q) (h1 : q ≤ 9223372036854775807) : keyOf Tryz.prog 3 (.int .i64 q) = some (.int .i64 q) := keyOf_int_mk Tryz.underlying3 (WalkArith.wf_i64 ⟨h0, h1⟩)
theorem wf_bnd {q : Int} (h : (Lit.int .i64 q).wf = true) : -9223372036854775808 ≤ q ∧ q ≤ 9223372036854775807 := by
  simp [Lit.wf] at h
  exact h
theorem NX_le {S Q : List Int} {f : Int → Nat} {N : Nat} (h : NX S Q f N) (hf : ∀ q, f q ≤ 1048576) : N ≤ 1048576 := by
  rcases h.2 with rfl | ⟨q, -, rfl⟩
  · exact Nat.zero_le _
  · exact hf q
theorem not_take {S : List Int} {j : Nat} {q : Int} (hn : S.Nodup) (hq : S[j]? = some q) : q ∉ S.take j := by
  intro h
  obtain ⟨i, hi, he⟩ := List.mem_iff_getElem.1 h
  rw [List.getElem_take] at he
  rw [List.length_take] at hi
  obtain ⟨hj, hq⟩ := List.getElem?_eq_some_iff.1 hq
  have := (List.getElem_inj hn).1 (he.trans hq.symm)
  omega
theorem take_snoc {S : List Int} {j : Nat} {q : Int} (hq : S[j]? = some q) : S.take (j + 1) = S.take j ++ [q] := by
  rw [List.take_add_one, hq]
  rfl
theorem keys_len {H : Type} {P : Program} {k : TypeId} {R : Value → Option (DataW H × List MemPlace)} {w : World} {b n : Nat} {D : DataW H} (hown : w.ownsMap P k R b n D) (_ : Keyed P k) : (intKeys D).length = Maps.size D := by
  obtain ⟨es, rfl⟩ := hown.isMap
  simp [intKeys, Maps.size]
theorem ar_ne_map {w : World} {R : Value → Option (DataW Unit × List MemPlace)} {b n g : Nat} {l : List Int} {D : DataW Unit} (h : AR w g l) (k : w.ownsMap Tryz.prog 3 R b n D) : g ≠ b := by
  obtain ⟨cs, ty, h1, -⟩ := h
  obtain ⟨es, clock, h2, -⟩ := k
  intro e
  subst e
  rw [h1] at h2
  cases h2
theorem map_below {w w' : World} {R : Value → Option (DataW Unit × List MemPlace)} {b n B : Nat} {D : DataW Unit} (h : w.ownsMap Tryz.prog 3 R b n D) (hb : Below B w w') (hB : b < B := by omega) : w'.ownsMap Tryz.prog 3 R b n D := by
  obtain ⟨es, clock, h1, h2⟩ := h
  exact ⟨es, clock, (hb.block b hB).trans h1, h2⟩
attribute [local irreducible] World.cell?
set_option maxRecDepth 100000 in
set_option maxHeartbeats 6400000 in
theorem irelease (b nn : Nat) (D : DataW Unit) (f : Int → Nat) (g : Gt) (w : World) (hown : w.ownsMap Tryz.prog 3 (plainElem Tryz.prog 3) b nn D) (hD : MD D f) (hnn : nn ≤ 1048576) (hf : ∀ q, f q ≤ 1048576) :
    Calls Tryz.prog 35 #[.map (some b), (.agg #[.int .i64 g.k, .int .i64 g.a, .int .i64 g.b, .int .i64 g.c])] w fun e w' => ∃ (S : List Int) (N : Nat) (D' : DataW Unit), e = .returned (.int .i64 (N : Int)) ∧ NX S (gqs g) f N ∧ (∀ q, f q ≠ 0 → q ∈ S) ∧ MD D' (rlA (gqs g) f) ∧ w'.ownsMap Tryz.prog 3 (plainElem Tryz.prog 3) b nn D' ∧ Own b w w' := by
  have hbl := hown.lt
  have Hown1 := Lib.hid (hown.alloc (.cells #[.int .i64 g.k, .int .i64 g.a, .int .i64 g.b, .int .i64 g.c] 44))
  have hsz := Nat.le_trans hown.size_le hnn
  obtain ⟨hnd, hmem⟩ := keys_mem hown llLaw Tryz.underlying3
  have hwf := intKeys_wf hown Tryz.underlying3
  have HK := Lib.hid (fun W => ikeys0 (some b) W)
  have HS := Lib.hid (ikeys1 b nn D _ _ Hown1.out hsz)
  have HX0 := Lib.hid (heap_alloc_new w (.cells #[.int .i64 g.k, .int .i64 g.a, .int .i64 g.b, .int .i64 g.c] 44))
  have Hb0 := Lib.hid (show Below w.heap.size w (w.alloc (.cells #[.int .i64 g.k, .int .i64 g.a, .int .i64 g.b, .int .i64 g.c] 44)) by go_grown)
  have Hact := Lib.hid (fun q W h0 h1 => iacts g q W h0 h1)
  have hz1 : (w.alloc (.cells #[.int .i64 g.k, .int .i64 g.a, .int .i64 g.b, .int .i64 g.c] 44)).heap.size = w.heap.size + 1 := by simp
  rw [hz1] at HS
  have HD := Lib.hid hD
  have Hf := Lib.hid hf
  have HM := Lib.hid (fun x => (hmem x).trans (hD.has x))
  have Hmem := Lib.hid (fun x hx => wf_bnd (hwf x hx))
  have HL := Lib.hid (keys_len hown llLaw)
  clear hmem hwf hown hD hf
  go_enter Tryz.func35, Tryz.ntmps35
  go_wp2_with fail
  refine (HK.out _).mono ?_
  rintro e w1 ⟨rfl, rfl⟩
  go_wp2_with fail
  refine (HS.out).mono ?_
  rintro e w2 ⟨v, S, rfl, hp, hrow, hb2⟩
  have hs2 := hb2.size
  have HX := Lib.hid (below_blk hb2 (by omega) HX0.out)
  have hbx : b ≠ w.heap.size := by omega
  have Ho := Lib.hid (own_of_below (B := b) (below_nx Hb0.out (show Below (w.alloc (.cells #[.int .i64 g.k, .int .i64 g.a, .int .i64 g.b, .int .i64 g.c] 44)).heap.size _ w2 by rw [hz1]; exact hb2)))
  have Hown := Lib.hid (map_below Hown1.out hb2 (by omega))
  have hnd2 := hp.nodup_iff.2 hnd
  have HNX : NX (S.take 0) (gqs g) f 0 := NX.nil
  have HR0 : MD D (rlS (gqs g) (S.take 0) f) := by rw [show S.take 0 = [] from rfl, rlS_nil]; exact HD.out
  have Hin := Lib.hid (fun x hx => Hmem.out x (hp.mem_iff.1 hx))
  have HfS := Lib.hid (fun x => (show f x ≠ 0 ↔ x ∈ S from ((HM.out x).symm.trans hp.mem_iff.symm)))
  have Hnd := Lib.hid hnd2
  have HNX := Lib.hid HNX
  have HR0 := Lib.hid HR0
  have Hrow := Lib.hid hrow
  have Hf2 := Lib.hid (fun S N (h : NX S (gqs g) f N) => NX_le h Hf.out)
  have HsS : S.length ≤ 1048576 := by
    have := hp.length_eq
    have h2 : (intKeys D).length = Maps.size D := HL.out
    omega
  clear hb2 hnd hnd2 hp hrow HK HS HX0 Hb0 Hown1 HL HM Hmem
  obtain ⟨pv, cv, rfl⟩ := ownr_form Hrow.out
  generalize hQ : gqs g = Q at *
  go_wp2_with fail
  go_loopg [5, 12] S.length (fun m nx i wr => ∃ (j N : Nat) (E : DataW Unit), m = S.length - j ∧ j ≤ S.length ∧ nx = .int .i64 (N : Int) ∧ i = .int .i64 j ∧ Hid (NX (S.take j) Q f N) ∧ Hid (MD E (rlS Q (S.take j) f)) ∧ Hid (wr.ownsMap Tryz.prog 3 (plainElem Tryz.prog 3) b nn E) ∧ Hid (Own b w wr) ∧ Hid (wr.heap[w.heap.size]? = some (.cells #[.int .i64 g.k, .int .i64 g.a, .int .i64 g.b, .int .i64 g.c] 44 (0, 0))) ∧ Hid (wr.ownsRow (w.heap.size + 1 + 1) 3 1 (.slice pv S.length cv) S.length (S.map encZ)))
  case atStart => exact ⟨0, 0, D, rfl, Nat.zero_le _, rfl, rfl, HNX, HR0, Hown, Ho, HX, Hrow⟩
  case round =>
    obtain ⟨j, N, E, rfl, hj, rfl, rfl, HN, HE, HwE, Ho, HX, Hrow⟩ := hrel
    have hNle := Hf2.out _ _ HN.out
    by_cases hlt : j < S.length
    · obtain ⟨q, hq⟩ : ∃ q, S[j]? = some q := ⟨S[j], List.getElem?_eq_getElem hlt⟩
      obtain ⟨gr, gc, hv, -, hgB, hgl, hgc, -, -⟩ := ownr_cell Hrow.out (show (S.map encZ)[j]? = some (.int .i64 q) by rw [List.getElem?_map, hq]; rfl)
      injection hv with hv _ hv2
      subst hv
      subst hv2
      obtain ⟨c0, c1, c2, c3⟩ := blk_cells HX.out
      have hxl := lt_of_block HX.out
      have hqm := List.mem_of_getElem? hq
      have hqb := Hin.out q hqm
      have hfq : f q ≠ 0 := (HfS.out q).2 hqm
      have hfle := Hf.out q
      have hqt := not_take Hnd.out hq
      have hrl : rlS Q (S.take j) f q = f q := rlS_at hqt
      have hts := take_snoc hq
      have hjI : (0 : Int) ≤ (j : Int) := by omega
      have hjL : (j : Int) < (S.length : Int) := by omega
      have Ha := Lib.hid (fun W => Hact.out q W hqb.1 hqb.2)
      have Hq := Lib.hid hq
      have Hts := Lib.hid hts
      have hkey := llKey hqb.1 hqb.2
      clear hqm hqt hts hq
      by_cases hqQ : q ∈ Q
      · have Ha := Lib.hid (show ∀ W, Calls Tryz.prog 53 #[(.agg #[.int .i64 g.k, .int .i64 g.a, .int .i64 g.b, .int .i64 g.c]), .int .i64 q] W fun e w' => e = .returned (.bool true) ∧ Below W.heap.size W w' from fun W => by have h := Ha.out W; rw [decide_eq_true hqQ] at h; exact h)
        go_wp2_with fail
        refine (Ha.out _).mono ?_
        rintro e w4 ⟨rfl, hb4⟩
        have HX4 := Lib.hid (below_blk hb4 hxl HX.out)
        have HwE4 := Lib.hid (map_below HwE.out hb4 (by have := HwE.out.lt; omega))
        have Ho4 := Lib.hid (own_trans Ho.out (own_of_below (B := b) hb4))
        have Hrow4 := Lib.hid (row_below Hrow.out hb4)
        have hc0 : rlS Q (S.take j) f q ≠ 0 := by rw [hrl]; exact hfq
        have Hat := Lib.hid (fun c (h : E.atKey (.int .i64 q) (.lit (.int .i64 0)) = .lit (.int .i64 c)) => (MD.at HE.out hc0 h).trans (by rw [hrl]))
        have HE2 := Lib.hid (show MD (E.del (.int .i64 q)) (rlS Q (S.take (j + 1)) f) by rw [Hts.out, ← rlS_yes hqQ]; exact HE.out.del q)
        have HN2 := Lib.hid (show NX (S.take (j + 1)) Q f (max N (f q)) by rw [Hts.out]; exact HN.out.yes hqQ)
        clear hb4 Ha hc0 hrl c0 c1 c2 c3
        obtain ⟨w5, hrun5, hown5, hturn5⟩ := HwE4.out.drop llLaw Tryz.underlying42 hkey 0
        have HwE5 := Lib.hid hown5
        have Ho5 := Lib.hid (own_trans Ho4.out hturn5.grown)
        have HX5 := Lib.hid (own_blk hturn5.grown (Ne.symm hbx) HX4.out)
        have Hrow5 := Lib.hid (ownr_keep (w' := w5) Hrow4.out (fun k hk hkl => hturn5.grown.block k hkl (fun e => by have := (Hrow4.out.lt k hk).1; injection e with e; omega)))
        clear hown5 hturn5
        go_wp2_with (first | (at_lookup; refine wpList_lookup_own_int _ rfl _ _ 42 rfl 3 3 .i64 llLaw Tryz.underlying42 Tryz.underlying3 (llZero _) b nn E rfl HwE4.out _ _ rfl hkey ?_; intro c hat hwc))
        have hc := Hat.out c hat
        have hw1 : wrap64 (c + 1) = (f q : Int) := by rw [IntWalk.wrap64_in _ (by omega)]; omega
        clear hat hwc hc Hat
        generalize f q = F at *
        go_roundg (S.length - (j + 1))
        case measure => omega
        case rel => exact ⟨j + 1, max N F, _, rfl, by omega, by rw [hw1]; congr 1; omega, by go_num, HN2, HE2, HwE5, Ho5, HX5, Hrow5⟩
      · have Ha := Lib.hid (show ∀ W, Calls Tryz.prog 53 #[(.agg #[.int .i64 g.k, .int .i64 g.a, .int .i64 g.b, .int .i64 g.c]), .int .i64 q] W fun e w' => e = .returned (.bool false) ∧ Below W.heap.size W w' from fun W => by have h := Ha.out W; rw [decide_eq_false hqQ] at h; exact h)
        go_wp2_with fail
        refine (Ha.out _).mono ?_
        rintro e w4 ⟨rfl, hb4⟩
        have HX4 := Lib.hid (below_blk hb4 hxl HX.out)
        have HwE4 := Lib.hid (map_below HwE.out hb4 (by have := HwE.out.lt; omega))
        have Ho4 := Lib.hid (own_trans Ho.out (own_of_below (B := b) hb4))
        have Hrow4 := Lib.hid (row_below Hrow.out hb4)
        have HE2 := Lib.hid (show MD E (rlS Q (S.take (j + 1)) f) by rw [Hts.out, ← rlS_no hqQ]; exact HE.out)
        have HN2 := Lib.hid (show NX (S.take (j + 1)) Q f N by rw [Hts.out]; exact HN.out.no hqQ)
        clear hb4 Ha hrl c0 c1 c2 c3
        go_wp2_with fail
        go_roundg (S.length - (j + 1))
        case measure => omega
        case rel => exact ⟨j + 1, N, E, rfl, by omega, rfl, by go_num, HN2, HE2, HwE4, Ho4, HX4, Hrow4⟩
    · obtain rfl : j = S.length := by omega
      have hN := HN.out
      have hE := HE.out
      rw [List.take_length] at hN hE
      have hfS := fun q => (HfS.out q).1
      rw [rlS_fin hfS] at hE
      have HN := Lib.hid hN
      have HE := Lib.hid hE
      clear hN hE hfS
      go_wp2_with fail
      go_ret
      subst hQ
      exact ⟨S, N, E, rfl, HN.out, fun q => (HfS.out q).1, HE.out, HwE.out, Ho.out⟩
set_option maxRecDepth 100000 in
set_option maxHeartbeats 6400000 in
theorem isched (b nn : Nat) (D : DataW Unit) (M : List (List Gt)) (g : Gt) (w : World) (hown : w.ownsMap Tryz.prog 3 (plainElem Tryz.prog 3) b nn D) (hD : MD D (lq M)) (hnn : nn + 3 ≤ 1048576) (hM : M.length ≤ 1048576) (hq : ∀ q ∈ gqs g, -9223372036854775808 ≤ q ∧ q ≤ 9223372036854775807) :
    Calls Tryz.prog 17 #[.map (some b), (.agg #[.int .i64 g.k, .int .i64 g.a, .int .i64 g.b, .int .i64 g.c])] w fun e w' => ∃ (D' : DataW Unit), e = .returned (.int .i64 ((layAt M g : Nat) : Int)) ∧ MD D' (lq (layG M g)) ∧ w'.ownsMap Tryz.prog 3 (plainElem Tryz.prog 3) b (nn + 3) D' ∧ Own b w w' := by
  have hbl := hown.lt
  have HS := Lib.hid (irelease b nn D (lq M) g _ (hown.alloc (.cells #[.int .i64 g.k, .int .i64 g.a, .int .i64 g.b, .int .i64 g.c] 44)) hD (by omega) (fun q => Nat.le_trans (lq_le M q) hM))
  have HG := Lib.hid (fun W => igqs1 g W)
  have HX0 := Lib.hid (heap_alloc_new w (.cells #[.int .i64 g.k, .int .i64 g.a, .int .i64 g.b, .int .i64 g.c] 44))
  have Ho0 := Lib.hid (own_of_below (B := b) (show Below w.heap.size w (w.alloc (.cells #[.int .i64 g.k, .int .i64 g.a, .int .i64 g.b, .int .i64 g.c] 44)) by go_grown))
  have hz1 : (w.alloc (.cells #[.int .i64 g.k, .int .i64 g.a, .int .i64 g.b, .int .i64 g.c] 44)).heap.size = w.heap.size + 1 := by simp
  have Hq := Lib.hid hq
  have hlen := gqs_row g
  have hbx : b ≠ w.heap.size := by omega
  have HF := Lib.hid (stS_fin M g)
  have HNf := Lib.hid (fun S N (h : NX S (gqs g) (lq M) N) h2 => NX.fin h h2)
  have hNle := Nat.le_trans (layAt_le M g) hM
  clear hown hD hq
  generalize gqs g = Q at *
  generalize hN : layAt M g = N at *
  generalize hL : lq (layG M g) = L at *
  generalize lq M = f at *
  obtain ⟨c0, c1, c2, c3⟩ := blk_cells HX0.out
  have hxl := lt_of_block HX0.out
  go_enter Tryz.func17, Tryz.ntmps17
  go_wp2_with fail
  refine (HS.out).mono ?_
  rintro e w2 ⟨S, N', E, rfl, hnx, hS, hE, hown2, ho2⟩
  obtain rfl : N' = N := HNf.out S N' hnx hS
  have HX2 := Lib.hid (own_blk ho2 (Ne.symm hbx) HX0.out)
  have Ho2 := Lib.hid (own_trans Ho0.out ho2)
  have HE := Lib.hid hE
  have Hown2 := Lib.hid hown2
  have hs2 := ho2.size
  clear hnx hS hE hown2 ho2 c0 c1 c2 c3 hxl HS HX0 HNf
  obtain ⟨c0, c1, c2, c3⟩ := blk_cells HX2.out
  have hxl := lt_of_block HX2.out
  go_wp2_with fail
  refine (HG.out _).mono ?_
  rintro e w3 ⟨gb, gc, rfl, har, hb3⟩
  have Har := Lib.hid har
  have Hown3 := Lib.hid (map_below Hown2.out hb3 (by have := Hown2.out.lt; omega))
  have Ho3 := Lib.hid (own_trans Ho2.out (own_of_below (B := b) hb3))
  clear har hb3
  have hgb := ar_ne_map Har.out Hown3.out
  have HE3 := Lib.hid (show MD E (stS (Q.take 0) N' (rlA Q f)) by rw [show Q.take 0 = [] from rfl, stS_nil]; exact HE.out)
  go_wp2_with fail
  go_loopg [14] Q.length (fun m i wr => ∃ (j : Nat) (E : DataW Unit), m = Q.length - j ∧ j ≤ Q.length ∧ i = .int .i64 j ∧ Hid (MD E (stS (Q.take j) N' (rlA Q f))) ∧ Hid (wr.ownsMap Tryz.prog 3 (plainElem Tryz.prog 3) b (nn + j) E) ∧ Hid (Own b w wr) ∧ Hid (AR wr gb Q))
  case atStart => exact ⟨0, E, rfl, Nat.zero_le _, rfl, HE3, Hown3, Ho3, Har⟩
  case round =>
    obtain ⟨j, E, rfl, hj, rfl, HE, HwE, Ho, Har⟩ := hrel
    by_cases hlt : j < Q.length
    · obtain ⟨q, hq⟩ : ∃ q, Q[j]? = some q := ⟨Q[j], List.getElem?_eq_getElem hlt⟩
      have c0 := Har.out.cell hq
      have hqb := Hq.out q (List.mem_of_getElem? hq)
      have hkey := llKey hqb.1 hqb.2
      have hjI : (0 : Int) ≤ (j : Int) := by omega
      have hjL : (j : Int) < (Q.length : Int) := by omega
      have HE2 := Lib.hid (show MD (E.put (.int .i64 q) (.lit (.int .i64 (N' : Int)))) (stS (Q.take (j + 1)) N' (rlA Q f)) by rw [take_snoc hq, ← stS_one]; exact HE.out.put q N')
      obtain ⟨w5, hrun5, hown5, hgrow5⟩ := HwE.out.update llLaw Tryz.underlying42 (by unfold maxLen; omega) hkey (plainElem_int Tryz.underlying3 (WalkArith.wf_i64 (show -9223372036854775808 ≤ (N' : Int) ∧ (N' : Int) ≤ 9223372036854775807 by omega)))
      have HwE5 := Lib.hid hown5
      have Ho5 := Lib.hid (own_trans Ho.out hgrow5)
      have Har5 := Lib.hid (Har.out.block (hgrow5.block gb Har.out.lt (by intro h; injection h with h; exact hgb h)))
      clear hown5 hgrow5 hq
      go_wp2_with fail
      go_roundg (Q.length - (j + 1))
      case measure => omega
      case rel => exact ⟨j + 1, _, rfl, by omega, by go_num, HE2, HwE5, Ho5, Har5⟩
    · obtain rfl : j = Q.length := by omega
      have hE := HE.out
      rw [List.take_length, HF.out] at hE
      have HE2 := Lib.hid hE
      clear hE
      go_wp2_with fail
      go_ret
      subst hN
      subst hL
      exact ⟨E, rfl, HE2.out, HwE.out.mono (by omega), Ho.out⟩
end Go.Proofs.YtckfklpgnneodaaGreat
