/- BaseB25: several of our texts in one: CdP CiD CiKg. -/
import Derived.Test.YtmpafidkpangeaaCiM
import Derived.Test.YtmpafidkpangeaaCiN
import Derived.Test.YtmpafidkpangeaaCiB
import Derived.Test.YtmpafidkpangeaaBaseB24
import Derived.Test.YtmpafidkpangeaaBaseB07
import Derived.Test.YtmpafidkpangeaaBaseB17
import Derived.Test.YtmpafidkpangeaaBaseB09
import Derived.Test.YtmpafidkpangeaaBaseB20
namespace Go.Proofs.Ytmpafidkpangeaa
theorem ccM_eb (n : Int) (L : List Gt) : EbM (ccM n L) := by
  unfold ccM
  split
  · exact fun r hr => Ok.eb (cirM_row r hr).1
  · exact fun r hr => absurd hr List.not_mem_nil
theorem ccB_parts {n : Int} {L : List Gt} (h : ccB n L = true) : ciB n L = true ∧ cirB L n.toNat = true ∧ ccM n L = cirM L n.toNat := by
  unfold ccB at h
  rw [Bool.and_eq_true] at h
  exact ⟨h.1, h.2, if_pos h.1⟩
theorem cjB_parts {n m : Int} {L M : List Gt} (h : cjB n L m M = true) : ciB n L = true ∧ ciB m M = true ∧ n = m ∧ ciB n (L ++ M) = true := by
  unfold cjB at h
  simp only [Bool.and_eq_true, decide_eq_true_eq] at h
  exact h
theorem law_joined {n m : Int} {L M : List Gt} (h : cjB n L m M = true) (h1 : ccB n L = true) (h2 : ccB m M = true) (h3 : ccB (cjN n L m M) (cjL n L m M) = true) (h4 : mulMB (ccM m M) (ccM n L) = true) :
    mulM (ccM m M) (ccM n L) = ccM (cjN n L m M) (cjL n L m M) := by
  rw [show cjN n L m M = n from if_pos h, show cjL n L m M = L ++ M from if_pos h] at h3 ⊢
  obtain ⟨k1, -, e, -⟩ := cjB_parts h
  subst e
  obtain ⟨-, hn, -⟩ := ciB_parts k1
  rw [(ccB_parts h1).2.2, (ccB_parts h2).2.2] at h4
  rw [(ccB_parts h1).2.2, (ccB_parts h2).2.2, (ccB_parts h3).2.2]
  exact cir_joined (by omega) (by omega) (ccB_parts h1).2.1 (ccB_parts h2).2.1 (ccB_parts h3).2.1 h4
theorem invL_valid {n : Int} {L : List Gt} (h : ∀ g ∈ L, gtB g n = true) : ∀ g ∈ invL L, gtB g n = true := fun g hg => by
  unfold invL at hg
  rw [List.mem_reverse, List.mem_map] at hg
  obtain ⟨x, hx, rfl⟩ := hg
  rw [gtB_invP]
  exact h x hx
theorem law_undone1 {n : Int} {L : List Gt} (h : ciB n L = true) (hl : 2 * L.length ≤ 60) : cjB n L (icN n L) (icL n L) = true := by
  rw [show icN n L = n from if_pos h, show icL n L = invL L from if_pos h]
  obtain ⟨h1, h2, h3⟩ := ciB_parts h
  unfold cjB
  simp only [Bool.and_eq_true, decide_eq_true_eq]
  have hi := invL_valid h1
  exact ⟨h, ciB_of hi h2 (by rw [invL_len]; omega), trivial, ciB_of (fun g hg => by
    rcases List.mem_append.1 hg with hg | hg
    · exact h1 g hg
    · exact hi g hg) h2 (by rw [List.length_append, invL_len]; omega)⟩
theorem law_undone2 {n : Int} {L : List Gt} (h : cjB n L (icN n L) (icL n L) = true) (h3 : ccB (cjN n L (icN n L) (icL n L)) (cjL n L (icN n L) (icL n L)) = true) :
    ccM (cjN n L (icN n L) (icL n L)) (cjL n L (icN n L) (icL n L)) = idM n := by
  rw [show cjN n L (icN n L) (icL n L) = n from if_pos h, show cjL n L (icN n L) (icL n L) = L ++ icL n L from if_pos h] at h3 ⊢
  obtain ⟨k1, -, -, -⟩ := cjB_parts h
  rw [show icL n L = invL L from if_pos k1] at h3 ⊢
  obtain ⟨-, hn, -⟩ := ciB_parts k1
  rw [(ccB_parts h3).2.2]
  have e := cir_undone (L := L) (n := n.toNat) (by omega) (by omega) (ccB_parts h3).2.1
  rw [e, show ((n.toNat : Nat) : Int) = n by omega]
end Go.Proofs.Ytmpafidkpangeaa
namespace Go.Proofs.Ytmpafidkpangeaa
open Go.RowKit
theorem CiD.of_right {m n : Nat} {l : List Gt} (h1 : 1 ≤ n) (h4 : n ≤ 4) (hl : l.length ≤ m) (hm : m ≤ 12) (hb : ∀ g ∈ l, GtBd g) : CiD m (n : Int) l :=
  ⟨by omega, by omega, fun g hg => (hb g hg).i, by have := hs_le l; omega⟩
attribute [local irreducible] World.cell?
set_option maxRecDepth 100000 in
set_option maxHeartbeats 3200000 in
theorem drawInverseCircuit (a0 : Option Addr) (len cap : Nat) (w : World) (hcode : CodeAt w w.heap.size a0 len) :
    Calls Try.prog 12 #[.slice a0 len cap] w fun e w' => (∃ n v l, e = .returned (.agg #[.int .i64 n, v]) ∧ CiD 12 n l ∧ gtE.Sl w' w.heap.size v l) ∧ Below w.heap.size w w' := by
  have Hcode := Lib.hid (show CodeAt (w.alloc (.cells #[.int .i64 0, .slice none 0 0] 26)) (w.alloc (.cells #[.int .i64 0, .slice none 0 0] 26)).heap.size a0 len from (hcode.below ((Below.refl _ _).alloc (Nat.le_refl _) (.cells #[.int .i64 0, .slice none 0 0] 26))).mono (by simp))
  have Hr0 := Lib.hid (heap_alloc_new w (.cells #[.int .i64 0, .slice none 0 0] 26))
  clear hcode
  go_enter Try.func12, Try.ntmps12
  go_wp2_with fail
  refine (new_any a0 len cap _ Hcode.out).mono ?_
  rintro e w1 ⟨rfl, hc1, hb1, hz1⟩
  have hz0 : (w.alloc (.cells #[.int .i64 0, .slice none 0 0] 26)).heap.size = w.heap.size + 1 := by simp
  rw [hz0] at hc1 hz1
  have Hr1 := Lib.hid (below_blk hb1 (lt_of_block Hr0.out) Hr0.out)
  have Hc1 := Lib.hid hc1
  have Hb1 := Lib.hid (below_up (B := w.heap.size) (w := w) (by go_grown) hb1 (by simp))
  have hs1 := hb1.size
  rw [hz0] at hs1
  clear hc1 hb1
  have HG := Lib.hid (bentC (w.heap.size + 1) 12 w1 Hc1.out (by omega) (by omega))
  go_wp2_with fail
  refine HG.out.mono ?_
  rintro e w2 ⟨⟨n, v, l, rfl, hd, hsl⟩, hc2, ho2⟩
  obtain ⟨p, c, rfl, -, -⟩ := id hsl
  have hs2 := ho2.size
  have Hr2 := Lib.hid (own_blk ho2 (by omega) Hr1.out)
  have Hb2 := Lib.hid (below_own Hb1.out ho2 (by omega) (by omega))
  have Hd := Lib.hid hd
  have Hsl := Lib.hid hsl
  clear hc2 ho2 Hc1 Hb1 Hr1 HG hd hsl
  obtain ⟨r0, r1⟩ := blk_cells2 Hr2.out
  have fR := fun o => free_at Hr2.out o
  have hrl := lt_of_block Hr2.out
  go_wp2_with fail
  obtain ⟨k0, k1⟩ := blk_cells2 (set2_at (u0 := .int .i64 n) (u1 := .slice p l.length c) Hr2.out)
  refine bodyPost_ret (v := .agg #[.int .i64 n, .slice p l.length c]) (by simp only [results, Try.results12]; simp [go_sem, k0, k1]) rfl ⟨⟨n, _, l, rfl, Hd.out, ?_⟩, ?_⟩
  · exact (sl_set1 (sl_set1 Hsl.out (by omega)) (by omega)).mono (by omega)
  · have := Hb2.out
    go_grown
set_option maxRecDepth 100000 in
set_option maxHeartbeats 6400000 in
theorem drawConcatCircuits (a0 : Option Addr) (len cap : Nat) (w : World) (hcode : CodeAt w w.heap.size a0 len) :
    Calls Try.prog 22 #[.slice a0 len cap] w fun e w' => (∃ n m u v L M, e = .returned (.tuple #[.agg #[.int .i64 n, u], .agg #[.int .i64 m, v]]) ∧ CiD 8 n L ∧ CiD 8 m M ∧ gtE.Sl w' w.heap.size u L ∧ gtE.Sl w' w.heap.size v M) ∧ Below w.heap.size w w' := by
  have hb0 : Below w.heap.size w ((w.alloc (.cells #[.int .i64 0, .slice none 0 0] 26)).alloc (.cells #[.int .i64 0, .slice none 0 0] 26)) := by go_grown
  have hz0 : ((w.alloc (.cells #[.int .i64 0, .slice none 0 0] 26)).alloc (.cells #[.int .i64 0, .slice none 0 0] 26)).heap.size = w.heap.size + 2 := by simp
  have Hcode := Lib.hid (show CodeAt ((w.alloc (.cells #[.int .i64 0, .slice none 0 0] 26)).alloc (.cells #[.int .i64 0, .slice none 0 0] 26)) ((w.alloc (.cells #[.int .i64 0, .slice none 0 0] 26)).alloc (.cells #[.int .i64 0, .slice none 0 0] 26)).heap.size a0 len from (hcode.below hb0).mono (by omega))
  have Hra := Lib.hid (alloc_blk (.cells #[.int .i64 0, .slice none 0 0] 26) (heap_alloc_new w (.cells #[.int .i64 0, .slice none 0 0] 26)))
  have Hrb := Lib.hid (show ((w.alloc (.cells #[.int .i64 0, .slice none 0 0] 26)).alloc (.cells #[.int .i64 0, .slice none 0 0] 26)).heap[w.heap.size + 1]? = some (.cells #[.int .i64 0, .slice none 0 0] 26 (0, 0)) by
    simpa using heap_alloc_new (w.alloc (.cells #[.int .i64 0, .slice none 0 0] 26)) (.cells #[.int .i64 0, .slice none 0 0] 26))
  have Hb0 := Lib.hid hb0
  clear hcode hb0
  go_enter Try.func22, Try.ntmps22
  go_wp2_with fail
  refine (new_any a0 len cap _ Hcode.out).mono ?_
  rintro e w1 ⟨rfl, hc1, hb1, hz1⟩
  rw [hz0] at hc1 hz1
  have Hra := Lib.hid (below_blk hb1 (lt_of_block Hra.out) Hra.out)
  have Hrb := Lib.hid (below_blk hb1 (lt_of_block Hrb.out) Hrb.out)
  have Hc1 := Lib.hid hc1
  have Hb1 := Lib.hid (below_nx Hb0.out hb1)
  have hs1 := hb1.size
  rw [hz0] at hs1
  clear hc1 hb1 Hb0
  go_wp2_with fail
  refine (below_any (w.heap.size + 2) 3 _ Hc1.out (by omega) (by omega)).mono ?_
  rintro e w2 ⟨⟨x, x0, x1, rfl⟩, hc2, ho2⟩
  obtain ⟨k, rfl⟩ : ∃ k : Nat, x = k := ⟨x.toNat, by omega⟩
  have hs2 := ho2.size
  have Hra := Lib.hid (own_blk ho2 (by omega) Hra.out)
  have Hrb := Lib.hid (own_blk ho2 (by omega) Hrb.out)
  have Hc2 := Lib.hid hc2
  have Hb2 := Lib.hid (below_own Hb1.out ho2 (by omega) (by omega))
  clear hc2 ho2 Hc1 Hb1
  go_wp2_with fail
  refine (once_any (w.heap.size + 2) 5 _ Hc2.out (by omega) (by omega)).mono ?_
  rintro e w3 ⟨⟨t, rfl⟩, hc3, ho3⟩
  have hs3 := ho3.size
  have Hra := Lib.hid (own_blk ho3 (by omega) Hra.out)
  have Hrb := Lib.hid (own_blk ho3 (by omega) Hrb.out)
  have Hc3 := Lib.hid hc3
  have Hb3 := Lib.hid (below_own Hb2.out ho3 (by omega) (by omega))
  clear hc3 ho3 Hc2 Hb2
  cases t with
  | true =>
    go_wp2_with fail
    refine (bentC (w.heap.size + 2) 8 w3 Hc3.out (by omega) (by omega)).mono ?_
    rintro e w4 ⟨⟨n1, u, L, rfl, hd1, hu⟩, hc4, ho4⟩
    obtain ⟨p, c, rfl, -, -⟩ := id hu
    have hs4 := ho4.size
    have Hra := Lib.hid (own_blk ho4 (by omega) Hra.out)
    have Hrb := Lib.hid (own_blk ho4 (by omega) Hrb.out)
    have Hb4 := Lib.hid (below_own Hb3.out ho4 (by omega) (by omega))
    have Hc4 := Lib.hid hc4
    have Hu := Lib.hid hu
    have Hd1 := Lib.hid hd1
    clear hd1
    clear hc4 ho4 Hc3 Hb3 hu
    go_wp2_with fail
    refine (bentC (w.heap.size + 2) 8 w4 Hc4.out (by omega) (by omega)).mono ?_
    rintro e w5 ⟨⟨n2, v, M, rfl, hd2, hv⟩, hc5, ho5⟩
    obtain ⟨p', c', rfl, -, -⟩ := id hv
    have hs5 := ho5.size
    have Hra := Lib.hid (own_blk ho5 (by omega) Hra.out)
    have Hrb := Lib.hid (own_blk ho5 (by omega) Hrb.out)
    have Hb5 := Lib.hid (below_own Hb4.out ho5 (by omega) (by omega))
    have Hu := Lib.hid (Hu.out.own ho5 (by omega))
    have Hv := Lib.hid hv
    have Hd2 := Lib.hid hd2
    clear hd2
    clear hc5 ho5 Hc4 Hb4 hv
    obtain ⟨r0, r1⟩ := blk_cells2 Hra.out
    obtain ⟨s0, s1⟩ := blk_cells2 Hrb.out
    have fR := fun o => free_at Hra.out o
    have fS := fun o => free_at Hrb.out o
    have hrl := lt_of_block Hra.out
    have hsl := lt_of_block Hrb.out
    go_wp2_with fail
    have HA := set2_at (u0 := .int .i64 n1) (u1 := .slice p L.length c) Hra.out
    have HB2 := set2_at (u0 := .int .i64 n2) (u1 := .slice p' M.length c') (set1_blk (off := 1) (u := .slice p L.length c) (show w.heap.size + 1 ≠ w.heap.size by omega) (set1_blk (off := 0) (u := .int .i64 n1) (show w.heap.size + 1 ≠ w.heap.size by omega) Hrb.out))
    have HA2 := set1_blk (off := 1) (u := .slice p' M.length c') (show w.heap.size ≠ w.heap.size + 1 by omega) (set1_blk (off := 0) (u := .int .i64 n2) (show w.heap.size ≠ w.heap.size + 1 by omega) HA)
    obtain ⟨k0, k1⟩ := blk_cells2 HA2
    obtain ⟨l0, l1⟩ := blk_cells2 HB2
    refine bodyPost_ret (v := .tuple #[.agg #[.int .i64 n1, .slice p L.length c], .agg #[.int .i64 n2, .slice p' M.length c']]) (by simp only [results, Try.results22]; simp [go_sem, k0, k1, l0, l1]) rfl ⟨⟨n1, n2, _, _, L, M, rfl, Hd1.out, Hd2.out, ?_, ?_⟩, ?_⟩
    · exact (sl_set1 (sl_set1 (sl_set1 (sl_set1 Hu.out (by omega)) (by omega)) (by omega)) (by omega)).mono (by omega)
    · exact (sl_set1 (sl_set1 (sl_set1 (sl_set1 Hv.out (by omega)) (by omega)) (by omega)) (by omega)).mono (by omega)
    · have := Hb5.out
      go_grown
  | false =>
    have HRT := Lib.hid (fun W h1 h2 => right_any (w.heap.size + 2) (1 + k) 8 W h1 h2 (by omega) (by omega) (by omega))
    rw [show ((1 + k : Nat) : Int) = 1 + (k : Int) by simp] at HRT
    obtain ⟨n1, hn1⟩ : ∃ n1 : Int, n1 = 1 + (k : Int) := ⟨_, rfl⟩
    go_wp2_with fail
    refine (HRT.out w3 Hc3.out (by omega)).mono ?_
    rintro e w4 ⟨⟨u, L, rfl, hl1, hg1, hu⟩, hc4, ho4⟩
    obtain ⟨p, c, rfl, -, -⟩ := id hu
    have hs4 := ho4.size
    have Hra := Lib.hid (own_blk ho4 (by omega) Hra.out)
    have Hrb := Lib.hid (own_blk ho4 (by omega) Hrb.out)
    have Hb4 := Lib.hid (below_own Hb3.out ho4 (by omega) (by omega))
    have Hc4 := Lib.hid hc4
    have Hu := Lib.hid hu
    have Hd1 := Lib.hid (show CiD 8 n1 L by rw [hn1]; exact CiD.of_right (n := 1 + k) (by omega) (by omega) hl1 (by omega) hg1)
    clear hl1 hg1
    clear hc4 ho4 Hc3 Hb3 hu
    go_wp2_with fail
    refine (HRT.out w4 Hc4.out (by omega)).mono ?_
    rintro e w5 ⟨⟨v, M, rfl, hl2, hg2, hv⟩, hc5, ho5⟩
    obtain ⟨p', c', rfl, -, -⟩ := id hv
    have hs5 := ho5.size
    have Hra := Lib.hid (own_blk ho5 (by omega) Hra.out)
    have Hrb := Lib.hid (own_blk ho5 (by omega) Hrb.out)
    have Hb5 := Lib.hid (below_own Hb4.out ho5 (by omega) (by omega))
    have Hu := Lib.hid (Hu.out.own ho5 (by omega))
    have Hv := Lib.hid hv
    have Hd2 := Lib.hid (show CiD 8 n1 M by rw [hn1]; exact CiD.of_right (n := 1 + k) (by omega) (by omega) hl2 (by omega) hg2)
    clear hl2 hg2
    clear hc5 ho5 Hc4 Hb4 hv
    obtain ⟨r0, r1⟩ := blk_cells2 Hra.out
    obtain ⟨s0, s1⟩ := blk_cells2 Hrb.out
    have fR := fun o => free_at Hra.out o
    have fS := fun o => free_at Hrb.out o
    have hrl := lt_of_block Hra.out
    have hsl := lt_of_block Hrb.out
    go_wp2_with fail
    rw [← hn1]
    have HA := set2_at (u0 := .int .i64 n1) (u1 := .slice p L.length c) Hra.out
    have HB2 := set2_at (u0 := .int .i64 n1) (u1 := .slice p' M.length c') (set1_blk (off := 1) (u := .slice p L.length c) (show w.heap.size + 1 ≠ w.heap.size by omega) (set1_blk (off := 0) (u := .int .i64 n1) (show w.heap.size + 1 ≠ w.heap.size by omega) Hrb.out))
    have HA2 := set1_blk (off := 1) (u := .slice p' M.length c') (show w.heap.size ≠ w.heap.size + 1 by omega) (set1_blk (off := 0) (u := .int .i64 n1) (show w.heap.size ≠ w.heap.size + 1 by omega) HA)
    obtain ⟨k0, k1⟩ := blk_cells2 HA2
    obtain ⟨l0, l1⟩ := blk_cells2 HB2
    refine bodyPost_ret (v := .tuple #[.agg #[.int .i64 n1, .slice p L.length c], .agg #[.int .i64 n1, .slice p' M.length c']]) (by simp only [results, Try.results22]; simp [go_sem, k0, k1, l0, l1]) rfl ⟨⟨n1, n1, _, _, L, M, rfl, Hd1.out, Hd2.out, ?_, ?_⟩, ?_⟩
    · exact (sl_set1 (sl_set1 (sl_set1 (sl_set1 Hu.out (by omega)) (by omega)) (by omega)) (by omega)).mono (by omega)
    · exact (sl_set1 (sl_set1 (sl_set1 (sl_set1 Hv.out (by omega)) (by omega)) (by omega)) (by omega)).mono (by omega)
    · have := Hb5.out
      go_grown
end Go.Proofs.Ytmpafidkpangeaa
namespace Go.Proofs.Ytmpafidkpangeaa
open Go.RowKit
theorem atI_get {p : List Int} {i : Nat} (h : i < p.length) : p[i]? = some (atI p (i : Int)) := by
  unfold atI
  simp [h]
attribute [local irreducible] World.cell?
set_option maxRecDepth 100000 in
set_option maxHeartbeats 6400000 in
theorem irelG1 (C : Nat) (k : Int) (a : Nat) (b c : Int) (p : List Int) (u : Value) (w : World) (h : ar k = 1) (ha : a < p.length) (hu : intE.Sl w C u p) :
    Calls Try.prog 77 #[(.agg #[.int .i64 ((Gt.mk k a b c)).k, .int .i64 ((Gt.mk k a b c)).a, .int .i64 ((Gt.mk k a b c)).b, .int .i64 ((Gt.mk k a b c)).c]), u] w fun e w' => e = .returned (.agg #[.int .i64 k, .int .i64 (atI p (a : Int)), .int .i64 0, .int .i64 0]) ∧ Below w.heap.size w w' := by
  have Hq := Lib.hid (fun W => igqs0 (Gt.mk k a b c) W)
  rw [show gqs (Gt.mk k a b c) = [(a : Int)] by unfold gqs; rw [h]; rfl, show ar (Gt.mk k a b c).k = 1 from h] at Hq
  have Hb0 := Lib.hid (show Below w.heap.size w (((w.alloc (.cells #[.int .i64 k, .int .i64 a, .int .i64 b, .int .i64 c] 44)).alloc (.cells #[.int .i64 0, .int .i64 0, .int .i64 0, .int .i64 0] 44)).alloc (.cells #[.int .i64 0, .int .i64 0, .int .i64 0] 113)) by go_grown)
  have HX := Lib.hid (show (((w.alloc (.cells #[.int .i64 k, .int .i64 a, .int .i64 b, .int .i64 c] 44)).alloc (.cells #[.int .i64 0, .int .i64 0, .int .i64 0, .int .i64 0] 44)).alloc (.cells #[.int .i64 0, .int .i64 0, .int .i64 0] 113)).heap[w.heap.size]? = some (.cells #[.int .i64 k, .int .i64 a, .int .i64 b, .int .i64 c] 44) by exact alloc_blk _ (alloc_blk _ (heap_alloc_new w _)))
  have HR := Lib.hid (show (((w.alloc (.cells #[.int .i64 k, .int .i64 a, .int .i64 b, .int .i64 c] 44)).alloc (.cells #[.int .i64 0, .int .i64 0, .int .i64 0, .int .i64 0] 44)).alloc (.cells #[.int .i64 0, .int .i64 0, .int .i64 0] 113)).heap[w.heap.size + 1]? = some (.cells #[.int .i64 0, .int .i64 0, .int .i64 0, .int .i64 0] 44) by
    have h := heap_alloc_new (w.alloc (.cells #[.int .i64 k, .int .i64 a, .int .i64 b, .int .i64 c] 44)) (.cells #[.int .i64 0, .int .i64 0, .int .i64 0, .int .i64 0] 44)
    rw [show (w.alloc (.cells #[.int .i64 k, .int .i64 a, .int .i64 b, .int .i64 c] 44)).heap.size = w.heap.size + 1 by simp] at h
    exact alloc_blk _ h)
  have HA := Lib.hid (show (((w.alloc (.cells #[.int .i64 k, .int .i64 a, .int .i64 b, .int .i64 c] 44)).alloc (.cells #[.int .i64 0, .int .i64 0, .int .i64 0, .int .i64 0] 44)).alloc (.cells #[.int .i64 0, .int .i64 0, .int .i64 0] 113)).heap[w.heap.size + 2]? = some (.cells #[.int .i64 0, .int .i64 0, .int .i64 0] 113) by
    have h := heap_alloc_new ((w.alloc (.cells #[.int .i64 k, .int .i64 a, .int .i64 b, .int .i64 c] 44)).alloc (.cells #[.int .i64 0, .int .i64 0, .int .i64 0, .int .i64 0] 44)) (.cells #[.int .i64 0, .int .i64 0, .int .i64 0] 113)
    rw [show ((w.alloc (.cells #[.int .i64 k, .int .i64 a, .int .i64 b, .int .i64 c] 44)).alloc (.cells #[.int .i64 0, .int .i64 0, .int .i64 0, .int .i64 0] 44)).heap.size = w.heap.size + 2 by simp] at h
    exact h)
  obtain ⟨pu, cu, rfl, hcu, hru⟩ := hu
  obtain ⟨gu, rfl, -, hrow⟩ := hru (by omega)
  have Hrow := Lib.hid (hrow.below Hb0.out hrow.lt)
  have hgu := hrow.lt
  clear hrow hru
  have hpa := atI_get (p := p) (i := a) ha
  generalize atI p (a : Int) = Pa at *
  have hs3 : (((w.alloc (.cells #[.int .i64 k, .int .i64 a, .int .i64 b, .int .i64 c] 44)).alloc (.cells #[.int .i64 0, .int .i64 0, .int .i64 0, .int .i64 0] 44)).alloc (.cells #[.int .i64 0, .int .i64 0, .int .i64 0] 113)).heap.size = w.heap.size + 3 := by simp
  go_enter Try.func77, Try.ntmps77
  go_wp2_with fail
  refine (Hq.out _).mono ?_
  rintro e w4 ⟨rfl, hrw, hb4⟩
  have HX := Lib.hid (below_blk hb4 (by omega) HX.out)
  have HR := Lib.hid (below_blk hb4 (by omega) HR.out)
  have HA := Lib.hid (below_blk hb4 (by omega) HA.out)
  have Hrow := Lib.hid (Hrow.out.below hb4 (by omega))
  have Hb4 := Lib.hid (below_nx Hb0.out hb4)
  have hs4 := hb4.size
  obtain ⟨x0, x1, x2, x3⟩ := blk_cells HX.out
  obtain ⟨y0, y1, y2, y3⟩ := blk_cells HR.out
  have z0 := cell_at HA.out 0 _ rfl
  have z1 := cell_at HA.out 1 _ rfl
  have z2 := cell_at HA.out 2 _ rfl
  have fA := fun o => free_at HA.out o
  have fR := fun o => free_at HR.out o
  have hxl := lt_of_block HX.out
  have hrl := lt_of_block HR.out
  have hal := lt_of_block HA.out
  have e0 := IRow.cell hrw (j := 0) rfl
  have p0 := IRow.cell Hrow.out hpa
  have hrwl := hrw.lt
  rw [hs3] at hrwl hs4 e0
  have hgu4 : gu < w4.heap.size := by omega
  clear hrw hb4 HX HA hpa
  go_wp2_with fail
  go_rounds 2
  go_wp2_with fail
  have k0 := cell_at (heap_set (set1_blk (g := w.heap.size + 1 + 1) (off := 0) (u := .int .i64 Pa) (by omega) HR.out) 0 (.int .i64 k)) 0 (.int .i64 k) rfl
  have k1 := cell_at (heap_set (heap_set (set1_blk (g := w.heap.size + 1 + 1) (off := 0) (u := .int .i64 Pa) (by omega) HR.out) 0 (.int .i64 k)) 1 (.int .i64 Pa)) 1 (.int .i64 Pa) rfl
  have k2 := cell_at (heap_set (heap_set (heap_set (set1_blk (g := w.heap.size + 1 + 1) (off := 0) (u := .int .i64 Pa) (by omega) HR.out) 0 (.int .i64 k)) 1 (.int .i64 Pa)) 2 (.int .i64 0)) 2 (.int .i64 0) rfl
  have k3 := cell_at (heap_set (heap_set (heap_set (heap_set (set1_blk (g := w.heap.size + 1 + 1) (off := 0) (u := .int .i64 Pa) (by omega) HR.out) 0 (.int .i64 k)) 1 (.int .i64 Pa)) 2 (.int .i64 0)) 3 (.int .i64 0)) 3 (.int .i64 0) rfl
  refine bodyPost_ret (v := .agg #[.int .i64 k, .int .i64 Pa, .int .i64 0, .int .i64 0]) (by simp only [results, Try.results77]; simp [go_sem, k0, k1, k2, k3]) rfl ⟨rfl, ?_⟩
  have := Hb4.out
  go_grown
set_option maxRecDepth 100000 in
set_option maxHeartbeats 6400000 in
theorem irelG2 (C : Nat) (k : Int) (a b : Nat) (c : Int) (p : List Int) (u : Value) (w : World) (h : ar k = 2) (ha : a < p.length) (hb : b < p.length) (hu : intE.Sl w C u p) :
    Calls Try.prog 77 #[(.agg #[.int .i64 ((Gt.mk k a b c)).k, .int .i64 ((Gt.mk k a b c)).a, .int .i64 ((Gt.mk k a b c)).b, .int .i64 ((Gt.mk k a b c)).c]), u] w fun e w' => e = .returned (.agg #[.int .i64 k, .int .i64 (atI p (a : Int)), .int .i64 (atI p (b : Int)), .int .i64 0]) ∧ Below w.heap.size w w' := by
  have Hq := Lib.hid (fun W => igqs0 (Gt.mk k a b c) W)
  rw [show gqs (Gt.mk k a b c) = [(a : Int), (b : Int)] by unfold gqs; rw [h]; rfl, show ar (Gt.mk k a b c).k = 2 from h] at Hq
  have Hb0 := Lib.hid (show Below w.heap.size w (((w.alloc (.cells #[.int .i64 k, .int .i64 a, .int .i64 b, .int .i64 c] 44)).alloc (.cells #[.int .i64 0, .int .i64 0, .int .i64 0, .int .i64 0] 44)).alloc (.cells #[.int .i64 0, .int .i64 0, .int .i64 0] 113)) by go_grown)
  have HX := Lib.hid (show (((w.alloc (.cells #[.int .i64 k, .int .i64 a, .int .i64 b, .int .i64 c] 44)).alloc (.cells #[.int .i64 0, .int .i64 0, .int .i64 0, .int .i64 0] 44)).alloc (.cells #[.int .i64 0, .int .i64 0, .int .i64 0] 113)).heap[w.heap.size]? = some (.cells #[.int .i64 k, .int .i64 a, .int .i64 b, .int .i64 c] 44) by exact alloc_blk _ (alloc_blk _ (heap_alloc_new w _)))
  have HR := Lib.hid (show (((w.alloc (.cells #[.int .i64 k, .int .i64 a, .int .i64 b, .int .i64 c] 44)).alloc (.cells #[.int .i64 0, .int .i64 0, .int .i64 0, .int .i64 0] 44)).alloc (.cells #[.int .i64 0, .int .i64 0, .int .i64 0] 113)).heap[w.heap.size + 1]? = some (.cells #[.int .i64 0, .int .i64 0, .int .i64 0, .int .i64 0] 44) by
    have h := heap_alloc_new (w.alloc (.cells #[.int .i64 k, .int .i64 a, .int .i64 b, .int .i64 c] 44)) (.cells #[.int .i64 0, .int .i64 0, .int .i64 0, .int .i64 0] 44)
    rw [show (w.alloc (.cells #[.int .i64 k, .int .i64 a, .int .i64 b, .int .i64 c] 44)).heap.size = w.heap.size + 1 by simp] at h
    exact alloc_blk _ h)
  have HA := Lib.hid (show (((w.alloc (.cells #[.int .i64 k, .int .i64 a, .int .i64 b, .int .i64 c] 44)).alloc (.cells #[.int .i64 0, .int .i64 0, .int .i64 0, .int .i64 0] 44)).alloc (.cells #[.int .i64 0, .int .i64 0, .int .i64 0] 113)).heap[w.heap.size + 2]? = some (.cells #[.int .i64 0, .int .i64 0, .int .i64 0] 113) by
    have h := heap_alloc_new ((w.alloc (.cells #[.int .i64 k, .int .i64 a, .int .i64 b, .int .i64 c] 44)).alloc (.cells #[.int .i64 0, .int .i64 0, .int .i64 0, .int .i64 0] 44)) (.cells #[.int .i64 0, .int .i64 0, .int .i64 0] 113)
    rw [show ((w.alloc (.cells #[.int .i64 k, .int .i64 a, .int .i64 b, .int .i64 c] 44)).alloc (.cells #[.int .i64 0, .int .i64 0, .int .i64 0, .int .i64 0] 44)).heap.size = w.heap.size + 2 by simp] at h
    exact h)
  obtain ⟨pu, cu, rfl, hcu, hru⟩ := hu
  obtain ⟨gu, rfl, -, hrow⟩ := hru (by omega)
  have Hrow := Lib.hid (hrow.below Hb0.out hrow.lt)
  have hgu := hrow.lt
  clear hrow hru
  have hpa := atI_get (p := p) (i := a) ha
  generalize atI p (a : Int) = Pa at *
  have hpb := atI_get (p := p) (i := b) hb
  generalize atI p (b : Int) = Pb at *
  have hs3 : (((w.alloc (.cells #[.int .i64 k, .int .i64 a, .int .i64 b, .int .i64 c] 44)).alloc (.cells #[.int .i64 0, .int .i64 0, .int .i64 0, .int .i64 0] 44)).alloc (.cells #[.int .i64 0, .int .i64 0, .int .i64 0] 113)).heap.size = w.heap.size + 3 := by simp
  go_enter Try.func77, Try.ntmps77
  go_wp2_with fail
  refine (Hq.out _).mono ?_
  rintro e w4 ⟨rfl, hrw, hb4⟩
  have HX := Lib.hid (below_blk hb4 (by omega) HX.out)
  have HR := Lib.hid (below_blk hb4 (by omega) HR.out)
  have HA := Lib.hid (below_blk hb4 (by omega) HA.out)
  have Hrow := Lib.hid (Hrow.out.below hb4 (by omega))
  have Hb4 := Lib.hid (below_nx Hb0.out hb4)
  have hs4 := hb4.size
  obtain ⟨x0, x1, x2, x3⟩ := blk_cells HX.out
  obtain ⟨y0, y1, y2, y3⟩ := blk_cells HR.out
  have z0 := cell_at HA.out 0 _ rfl
  have z1 := cell_at HA.out 1 _ rfl
  have z2 := cell_at HA.out 2 _ rfl
  have fA := fun o => free_at HA.out o
  have fR := fun o => free_at HR.out o
  have hxl := lt_of_block HX.out
  have hrl := lt_of_block HR.out
  have hal := lt_of_block HA.out
  have e0 := IRow.cell hrw (j := 0) rfl
  have p0 := IRow.cell Hrow.out hpa
  have e1 := IRow.cell hrw (j := 1) rfl
  have p1 := IRow.cell Hrow.out hpb
  have hrwl := hrw.lt
  rw [hs3] at hrwl hs4 e0 e1
  have hgu4 : gu < w4.heap.size := by omega
  clear hrw hb4 HX HA hpa hpb
  go_wp2_with fail
  go_rounds 3
  go_wp2_with fail
  have k0 := cell_at (heap_set (set1_blk (g := w.heap.size + 1 + 1) (off := 1) (u := .int .i64 Pb) (by omega) (set1_blk (g := w.heap.size + 1 + 1) (off := 0) (u := .int .i64 Pa) (by omega) HR.out)) 0 (.int .i64 k)) 0 (.int .i64 k) rfl
  have k1 := cell_at (heap_set (heap_set (set1_blk (g := w.heap.size + 1 + 1) (off := 1) (u := .int .i64 Pb) (by omega) (set1_blk (g := w.heap.size + 1 + 1) (off := 0) (u := .int .i64 Pa) (by omega) HR.out)) 0 (.int .i64 k)) 1 (.int .i64 Pa)) 1 (.int .i64 Pa) rfl
  have k2 := cell_at (heap_set (heap_set (heap_set (set1_blk (g := w.heap.size + 1 + 1) (off := 1) (u := .int .i64 Pb) (by omega) (set1_blk (g := w.heap.size + 1 + 1) (off := 0) (u := .int .i64 Pa) (by omega) HR.out)) 0 (.int .i64 k)) 1 (.int .i64 Pa)) 2 (.int .i64 Pb)) 2 (.int .i64 Pb) rfl
  have k3 := cell_at (heap_set (heap_set (heap_set (heap_set (set1_blk (g := w.heap.size + 1 + 1) (off := 1) (u := .int .i64 Pb) (by omega) (set1_blk (g := w.heap.size + 1 + 1) (off := 0) (u := .int .i64 Pa) (by omega) HR.out)) 0 (.int .i64 k)) 1 (.int .i64 Pa)) 2 (.int .i64 Pb)) 3 (.int .i64 0)) 3 (.int .i64 0) rfl
  refine bodyPost_ret (v := .agg #[.int .i64 k, .int .i64 Pa, .int .i64 Pb, .int .i64 0]) (by simp only [results, Try.results77]; simp [go_sem, k0, k1, k2, k3]) rfl ⟨rfl, ?_⟩
  have := Hb4.out
  go_grown
set_option maxRecDepth 100000 in
set_option maxHeartbeats 6400000 in
theorem irelG3 (C : Nat) (k : Int) (a b c : Nat) (p : List Int) (u : Value) (w : World) (h : ar k = 3) (ha : a < p.length) (hb : b < p.length) (hc : c < p.length) (hu : intE.Sl w C u p) :
    Calls Try.prog 77 #[(.agg #[.int .i64 ((Gt.mk k a b c)).k, .int .i64 ((Gt.mk k a b c)).a, .int .i64 ((Gt.mk k a b c)).b, .int .i64 ((Gt.mk k a b c)).c]), u] w fun e w' => e = .returned (.agg #[.int .i64 k, .int .i64 (atI p (a : Int)), .int .i64 (atI p (b : Int)), .int .i64 (atI p (c : Int))]) ∧ Below w.heap.size w w' := by
  have Hq := Lib.hid (fun W => igqs0 (Gt.mk k a b c) W)
  rw [show gqs (Gt.mk k a b c) = [(a : Int), (b : Int), (c : Int)] by unfold gqs; rw [h]; rfl, show ar (Gt.mk k a b c).k = 3 from h] at Hq
  have Hb0 := Lib.hid (show Below w.heap.size w (((w.alloc (.cells #[.int .i64 k, .int .i64 a, .int .i64 b, .int .i64 c] 44)).alloc (.cells #[.int .i64 0, .int .i64 0, .int .i64 0, .int .i64 0] 44)).alloc (.cells #[.int .i64 0, .int .i64 0, .int .i64 0] 113)) by go_grown)
  have HX := Lib.hid (show (((w.alloc (.cells #[.int .i64 k, .int .i64 a, .int .i64 b, .int .i64 c] 44)).alloc (.cells #[.int .i64 0, .int .i64 0, .int .i64 0, .int .i64 0] 44)).alloc (.cells #[.int .i64 0, .int .i64 0, .int .i64 0] 113)).heap[w.heap.size]? = some (.cells #[.int .i64 k, .int .i64 a, .int .i64 b, .int .i64 c] 44) by exact alloc_blk _ (alloc_blk _ (heap_alloc_new w _)))
  have HR := Lib.hid (show (((w.alloc (.cells #[.int .i64 k, .int .i64 a, .int .i64 b, .int .i64 c] 44)).alloc (.cells #[.int .i64 0, .int .i64 0, .int .i64 0, .int .i64 0] 44)).alloc (.cells #[.int .i64 0, .int .i64 0, .int .i64 0] 113)).heap[w.heap.size + 1]? = some (.cells #[.int .i64 0, .int .i64 0, .int .i64 0, .int .i64 0] 44) by
    have h := heap_alloc_new (w.alloc (.cells #[.int .i64 k, .int .i64 a, .int .i64 b, .int .i64 c] 44)) (.cells #[.int .i64 0, .int .i64 0, .int .i64 0, .int .i64 0] 44)
    rw [show (w.alloc (.cells #[.int .i64 k, .int .i64 a, .int .i64 b, .int .i64 c] 44)).heap.size = w.heap.size + 1 by simp] at h
    exact alloc_blk _ h)
  have HA := Lib.hid (show (((w.alloc (.cells #[.int .i64 k, .int .i64 a, .int .i64 b, .int .i64 c] 44)).alloc (.cells #[.int .i64 0, .int .i64 0, .int .i64 0, .int .i64 0] 44)).alloc (.cells #[.int .i64 0, .int .i64 0, .int .i64 0] 113)).heap[w.heap.size + 2]? = some (.cells #[.int .i64 0, .int .i64 0, .int .i64 0] 113) by
    have h := heap_alloc_new ((w.alloc (.cells #[.int .i64 k, .int .i64 a, .int .i64 b, .int .i64 c] 44)).alloc (.cells #[.int .i64 0, .int .i64 0, .int .i64 0, .int .i64 0] 44)) (.cells #[.int .i64 0, .int .i64 0, .int .i64 0] 113)
    rw [show ((w.alloc (.cells #[.int .i64 k, .int .i64 a, .int .i64 b, .int .i64 c] 44)).alloc (.cells #[.int .i64 0, .int .i64 0, .int .i64 0, .int .i64 0] 44)).heap.size = w.heap.size + 2 by simp] at h
    exact h)
  obtain ⟨pu, cu, rfl, hcu, hru⟩ := hu
  obtain ⟨gu, rfl, -, hrow⟩ := hru (by omega)
  have Hrow := Lib.hid (hrow.below Hb0.out hrow.lt)
  have hgu := hrow.lt
  clear hrow hru
  have hpa := atI_get (p := p) (i := a) ha
  generalize atI p (a : Int) = Pa at *
  have hpb := atI_get (p := p) (i := b) hb
  generalize atI p (b : Int) = Pb at *
  have hpc := atI_get (p := p) (i := c) hc
  generalize atI p (c : Int) = Pc at *
  have hs3 : (((w.alloc (.cells #[.int .i64 k, .int .i64 a, .int .i64 b, .int .i64 c] 44)).alloc (.cells #[.int .i64 0, .int .i64 0, .int .i64 0, .int .i64 0] 44)).alloc (.cells #[.int .i64 0, .int .i64 0, .int .i64 0] 113)).heap.size = w.heap.size + 3 := by simp
  go_enter Try.func77, Try.ntmps77
  go_wp2_with fail
  refine (Hq.out _).mono ?_
  rintro e w4 ⟨rfl, hrw, hb4⟩
  have HX := Lib.hid (below_blk hb4 (by omega) HX.out)
  have HR := Lib.hid (below_blk hb4 (by omega) HR.out)
  have HA := Lib.hid (below_blk hb4 (by omega) HA.out)
  have Hrow := Lib.hid (Hrow.out.below hb4 (by omega))
  have Hb4 := Lib.hid (below_nx Hb0.out hb4)
  have hs4 := hb4.size
  obtain ⟨x0, x1, x2, x3⟩ := blk_cells HX.out
  obtain ⟨y0, y1, y2, y3⟩ := blk_cells HR.out
  have z0 := cell_at HA.out 0 _ rfl
  have z1 := cell_at HA.out 1 _ rfl
  have z2 := cell_at HA.out 2 _ rfl
  have fA := fun o => free_at HA.out o
  have fR := fun o => free_at HR.out o
  have hxl := lt_of_block HX.out
  have hrl := lt_of_block HR.out
  have hal := lt_of_block HA.out
  have e0 := IRow.cell hrw (j := 0) rfl
  have p0 := IRow.cell Hrow.out hpa
  have e1 := IRow.cell hrw (j := 1) rfl
  have p1 := IRow.cell Hrow.out hpb
  have e2 := IRow.cell hrw (j := 2) rfl
  have p2 := IRow.cell Hrow.out hpc
  have hrwl := hrw.lt
  rw [hs3] at hrwl hs4 e0 e1 e2
  have hgu4 : gu < w4.heap.size := by omega
  clear hrw hb4 HX HA hpa hpb hpc
  go_wp2_with fail
  go_rounds 4
  go_wp2_with fail
  have k0 := cell_at (heap_set (set1_blk (g := w.heap.size + 1 + 1) (off := 2) (u := .int .i64 Pc) (by omega) (set1_blk (g := w.heap.size + 1 + 1) (off := 1) (u := .int .i64 Pb) (by omega) (set1_blk (g := w.heap.size + 1 + 1) (off := 0) (u := .int .i64 Pa) (by omega) HR.out))) 0 (.int .i64 k)) 0 (.int .i64 k) rfl
  have k1 := cell_at (heap_set (heap_set (set1_blk (g := w.heap.size + 1 + 1) (off := 2) (u := .int .i64 Pc) (by omega) (set1_blk (g := w.heap.size + 1 + 1) (off := 1) (u := .int .i64 Pb) (by omega) (set1_blk (g := w.heap.size + 1 + 1) (off := 0) (u := .int .i64 Pa) (by omega) HR.out))) 0 (.int .i64 k)) 1 (.int .i64 Pa)) 1 (.int .i64 Pa) rfl
  have k2 := cell_at (heap_set (heap_set (heap_set (set1_blk (g := w.heap.size + 1 + 1) (off := 2) (u := .int .i64 Pc) (by omega) (set1_blk (g := w.heap.size + 1 + 1) (off := 1) (u := .int .i64 Pb) (by omega) (set1_blk (g := w.heap.size + 1 + 1) (off := 0) (u := .int .i64 Pa) (by omega) HR.out))) 0 (.int .i64 k)) 1 (.int .i64 Pa)) 2 (.int .i64 Pb)) 2 (.int .i64 Pb) rfl
  have k3 := cell_at (heap_set (heap_set (heap_set (heap_set (set1_blk (g := w.heap.size + 1 + 1) (off := 2) (u := .int .i64 Pc) (by omega) (set1_blk (g := w.heap.size + 1 + 1) (off := 1) (u := .int .i64 Pb) (by omega) (set1_blk (g := w.heap.size + 1 + 1) (off := 0) (u := .int .i64 Pa) (by omega) HR.out))) 0 (.int .i64 k)) 1 (.int .i64 Pa)) 2 (.int .i64 Pb)) 3 (.int .i64 Pc)) 3 (.int .i64 Pc) rfl
  refine bodyPost_ret (v := .agg #[.int .i64 k, .int .i64 Pa, .int .i64 Pb, .int .i64 Pc]) (by simp only [results, Try.results77]; simp [go_sem, k0, k1, k2, k3]) rfl ⟨rfl, ?_⟩
  have := Hb4.out
  go_grown
end Go.Proofs.Ytmpafidkpangeaa
