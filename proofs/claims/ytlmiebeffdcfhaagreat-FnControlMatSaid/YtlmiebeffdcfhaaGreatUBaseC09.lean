/- UBaseC09: several of our texts in one: UMtKd UMtKh UMtKg UMtKe. -/
import Derived.Test.YtlmiebeffdcfhaaGreatUMtKa
import Derived.Test.YtlmiebeffdcfhaaGreatUMtKb
import Derived.Test.YtlmiebeffdcfhaaGreatUBaseB15
import Derived.Test.YtlmiebeffdcfhaaGreatUMtKc
namespace Go.Proofs.YtlmiebeffdcfhaaGreat
open Go.RowKit
theorem mt_rows {M : List (List Dw)} (h : mtB M = true) : ∀ r ∈ M, r.length = M.length ∧ ∀ x ∈ r, x.ok := fun r hr => ⟨((mtB_iff.1 h).2 r hr).1, (stB_iff.1 ((mtB_iff.1 h).2 r hr).2).1⟩
theorem col_st {M : List (List Dw)} (h : mtB M = true) {k : Nat} (hk : k < M.length) : stB (col M k) = true := by
  refine stB_iff.2 ⟨fun x hx => ?_, by rw [col_len]; exact mtB_qc h⟩
  obtain ⟨r, hr, rfl⟩ := List.mem_map.1 hx
  obtain ⟨hl, ho⟩ := mt_rows h r hr
  have : k < r.length := by omega
  rw [List.getD_eq_getElem?_getD, List.getElem?_eq_getElem this]
  exact ho _ (List.getElem_mem _)
attribute [local irreducible] World.cell?
end Go.Proofs.YtlmiebeffdcfhaaGreat
namespace Go.Proofs.YtlmiebeffdcfhaaGreat
open Go.RowKit
attribute [local irreducible] World.cell?
theorem mix_at {X Y : List (List Dw)} {j : Nat} (hX : j < X.length) {r : List Dw} (hr : Y[j]? = some r) : (X.take j ++ Y.drop j)[j]? = some r := by
  rw [List.getElem?_append_right (by simp; omega), List.getElem?_drop]
  rw [show j + (j - (X.take j).length) = j by simp; omega]
  exact hr
theorem mix_set {X Y : List (List Dw)} {j : Nat} (hl : X.length = Y.length) {r : List Dw} (hr : X[j]? = some r) : (X.take j ++ Y.drop j).set j r = X.take (j + 1) ++ Y.drop (j + 1) := by
  have h : j < X.length := by
    rcases Nat.lt_or_ge j X.length with h' | h'
    · exact h'
    · rw [List.getElem?_eq_none h'] at hr; cases hr
  have e : Y.drop j = Y[j]'(by omega) :: Y.drop (j + 1) := (List.getElem_cons_drop ..).symm
  rw [List.set_append_right _ _ (by simp; omega), show j - (X.take j).length = 0 by simp; omega, e, List.set_cons_zero, List.take_add_one, hr, List.append_assoc]
  rfl
def mapX (n : Nat) (r : Nat → List Dw) : List (List Dw) := (List.range n).map r
theorem mapX_len (n : Nat) (r : Nat → List Dw) : (mapX n r).length = n := by rw [mapX, List.length_map, List.length_range]
theorem mapX_get {n : Nat} {r : Nat → List Dw} {j : Nat} (hj : j < n) : (mapX n r)[j]? = some (r j) := by
  rw [mapX, List.getElem?_map, List.getElem?_range hj]; rfl
set_option maxRecDepth 100000 in
set_option maxHeartbeats 6400000 in
theorem imapC (F : Nat) (C : Array Value) (eF : ∀ args w, (callFunc F args).run Tryz.prog w = .ok (.enter F args) w) (R S : Nat) (u : Value) (B : List (List Dw)) (t : Nat → Bool) (r : Nat → List Dw) (w : World) (hu : DSM w R S u B) (hk : ∀ r ∈ B, B.length ≤ r.length) (hn : B.length ≤ 1048576) (hr : ∀ k, k < B.length → t k = true → (r k).length = B.length)
    (hF : ∀ k, k < B.length → ∀ D c W, Below w.heap.size w W → DSl W D c (col B k) → Calls Tryz.prog F (#[c] ++ C) W fun e w' => (∃ q, e = .returned (.tuple #[q, .bool (t k)]) ∧ DSl w' W.heap.size q (r k)) ∧ Below W.heap.size W w') :
    Calls Tryz.prog 79 #[u, .func (.func F) #[] C] w fun e w' => (∃ v, e = .returned (.tuple #[v, .bool ((List.range B.length).all t)]) ∧ DSM w' w.heap.size w'.heap.size v (if (List.range B.length).all t = true then colsM (mapX B.length r) else [])) ∧ Below w.heap.size w w' := by
  have H2 := Lib.hid (fun W (h : DSM W R S u B) => itrans R S u B W h hk hn)
  have HF := Lib.hid hF
  have Hu := Lib.hid hu
  obtain ⟨SB, hSB⟩ : ∃ SB, SB = (List.range B.length).all t := ⟨_, rfl⟩
  obtain ⟨SL, hSL⟩ : ∃ SL, SL = if SB = true then colsM (mapX B.length r) else [] := ⟨_, rfl⟩
  rw [← hSB, ← hSL]
  have HSB := Lib.hid hSB
  have HSL := Lib.hid hSL
  have Hlen := Lib.hid hr
  have HX := Lib.hid (fun (j : Nat) (hj : j < B.length) => mapX_get (r := r) hj)
  have HY := Lib.hid (fun (j : Nat) (hj : j < B.length) => colsM_get (L := B) hj)
  have HXl := Lib.hid (mapX_len B.length r)
  have HYl := Lib.hid (colsM_len B)
  have HT := Lib.hid (fun (D E : Nat) (c : Value) W (h : DSM W D E c (mapX B.length r)) (hr : ∀ x ∈ mapX B.length r, (mapX B.length r).length ≤ x.length) => itrans D E c (mapX B.length r) W h hr (by rw [mapX_len]; exact hn))
  have HM := Lib.hid (fun x (h : x ∈ mapX B.length r) => List.mem_map.1 h)
  generalize mapX B.length r = X at *
  generalize colsM B = Y at *
  clear hSB hSL hF hr hk
  obtain ⟨a', cap', rfl, hcap', -⟩ := hu
  go_enter Tryz.func79, Tryz.ntmps79
  go_wp2_with fail
  refine (H2.out _ Hu.out).mono ?_
  rintro e w2 ⟨c, rfl, hdc, hb2⟩
  have Hb2 := Lib.hid hb2
  have hs2 := Hb2.out.size
  obtain ⟨ca, cc, rfl, hcc, hcr⟩ := hdc
  have Hcr := Lib.hid hcr
  rw [HYl.out] at hcc ⊢
  clear hb2 hcr H2
  go_wp2_with fail
  go_loopg [15] B.length (fun n i wr => ∃ j : Nat, n = B.length - j ∧ j ≤ B.length ∧ i = .int .i64 j ∧ Hid (0 < B.length → ∃ g, ca = some ⟨g, 0, none⟩ ∧ w.heap.size ≤ g ∧ MRow wr w.heap.size wr.heap.size g (X.take j ++ Y.drop j)) ∧ Hid (∀ k, k < j → t k = true) ∧ Hid (Below w.heap.size w wr) ∧ w2.heap.size ≤ wr.heap.size)
  case atStart => exact ⟨0, rfl, Nat.zero_le _, rfl, Lib.hid (fun h0 => by obtain ⟨g, e, h1, h2, h3⟩ := Hcr.out (by rw [HYl.out]; exact h0); exact ⟨g, e, h1, by simpa using h3⟩), Lib.hid (fun k hk => absurd hk (Nat.not_lt_zero _)), Hb2, Nat.le_refl _⟩
  case round =>
    obtain ⟨j, rfl, hj, rfl, Hrow, Hall, Hb, hsz⟩ := hrel
    have hs := Hb.out.size
    by_cases hlt : j < B.length
    · obtain ⟨g, rfl, hg1, hrow⟩ := Hrow.out (by omega)
      have hXj := HX.out j hlt
      have hjX : j < X.length := by have := HXl.out; omega
      obtain ⟨p, pc, c0, hd1⟩ := hrow.cell (mix_at hjX (HY.out j hlt))
      have hgl := hrow.lt
      have Hc := Lib.hid (HF.out j hlt _ _ wr Hb.out hd1.dsl)
      have Hst := Lib.hid (mix_set (X := X) (Y := Y) (by rw [HXl.out, HYl.out]) hXj)
      have Hat := Lib.hid (fun (h : t j = true) k (hk : k < j + 1) => by
        rcases Nat.lt_succ_iff_lt_or_eq.1 hk with h' | rfl
        · exact Hall.out k h'
        · exact h)
      have Hno := Lib.hid (fun (h : t j = false) => (show ((List.range B.length).all t) = false from by
        rw [List.all_eq_false]; exact ⟨j, List.mem_range.2 hlt, by rw [h]; decide⟩))
      have Hrw := Lib.hid hrow
      have hmix := mix_at hjX (HY.out j hlt)
      have HmixL := Lib.hid (show j < (X.take j ++ Y.drop j).length by
        rcases Nat.lt_or_ge j (X.take j ++ Y.drop j).length with k | k
        · exact k
        · rw [List.getElem?_eq_none k] at hmix; cases hmix)
      clear hd1 hrow hXj hmix
      generalize t j = tj at *
      generalize r j = rj at *
      go_wp2_with fail
      refine (Hc.out).mono ?_
      rintro e w3 ⟨⟨q, rfl, hdq⟩, hb3⟩
      have Hb3 := Lib.hid (Hb.out.trans (hb3.mono hs))
      have hs3 := Hb3.out.size
      cases tj with
      | false =>
        obtain rfl : SB = false := HSB.out.trans (Hno.out rfl)
        obtain rfl : SL = [] := HSL.out
        clear hdq hb3
        go_wp2_with fail
        go_returns
        exact ⟨⟨_, rfl, DSM.nil⟩, Hb3.out⟩
      | true =>
        have hr2 := Hrw.out.block (hb3.block _ Hrw.out.lt) fun k _ _ hk => hb3.block k hk
        have f1 := fun o => hr2.free o
        obtain ⟨a9, c9, e0, -⟩ := hr2.cell (mix_at hjX (HY.out j hlt))
        have hgl3 := Nat.lt_of_lt_of_le hgl hb3.size
        have hr3 := Hrw.out.put (j := j) HmixL.out hdq.upto (by omega) hb3.size fun k hk => hb3.block k hk
        rw [Hst.out] at hr3
        have Hr3 := Lib.hid hr3
        have hsz3 := Nat.le_trans hsz hb3.size
        obtain ⟨a2, cap3, rfl, -, -⟩ := hdq
        clear hr3 hr2 hb3 Hrow Hrw Hc Hb c0
        go_wp2_with fail
        go_roundg (B.length - (j + 1))
        case measure => omega
        case rel =>
          refine ⟨j + 1, rfl, by omega, by go_num, Lib.hid (fun _ => ⟨g, rfl, hg1, by simpa using Hr3.out⟩), Lib.hid (Hat.out trivial), ?_, by simpa using hsz3⟩
          have := Hb3.out
          show Below _ _ _
          go_grown
    · obtain rfl : j = B.length := by omega
      have hall : ((List.range B.length).all t) = true := by
        rw [List.all_eq_true]; exact fun k hk => Hall.out k (List.mem_range.1 hk)
      obtain rfl : SB = true := HSB.out.trans hall
      obtain rfl : SL = colsM X := HSL.out
      have hrow := Hrow.out
      have hd : DSM wr w.heap.size wr.heap.size (.slice ca B.length cc) X := ⟨_, _, by rw [HXl.out], by rw [HXl.out]; exact hcc, fun h0 => by
        rw [HXl.out] at h0
        obtain ⟨g, e, h1, h2⟩ := hrow h0
        refine ⟨g, e, h1, h2.lt, ?_⟩
        rw [List.take_of_length_le (by rw [HXl.out]; exact Nat.le_refl _), List.drop_of_length_le (by rw [HYl.out]; exact Nat.le_refl _), List.append_nil] at h2
        exact h2⟩
      have Hcs := Lib.hid (HT.out _ _ _ wr hd (fun r hr => by
        obtain ⟨k, hk, rfl⟩ := HM.out r hr
        rw [HXl.out, Hlen.out k (List.mem_range.1 hk) (Hall.out k (List.mem_range.1 hk))]
        exact Nat.le_refl _))
      clear hrow hd Hrow
      go_wp2_with fail
      refine (Hcs.out).mono ?_
      rintro e w6 ⟨q, rfl, hdq, hb6⟩
      have Hdq := Lib.hid (hdq.mono (D := w.heap.size) (E := w6.heap.size) hs (Nat.le_refl _))
      have Hb6 := Lib.hid (Hb.out.trans (hb6.mono hs))
      clear hb6 hdq
      go_wp2_with fail
      go_returns
      exact ⟨⟨_, rfl, Hdq.out⟩, Hb6.out⟩
end Go.Proofs.YtlmiebeffdcfhaaGreat
namespace Go.Proofs.YtlmiebeffdcfhaaGreat
open Go.RowKit
theorem mulML_eq (A B : List (List Dw)) : mapX B.length (fun k => appL A (col B k)) = mulML A B := rfl
attribute [local irreducible] World.cell?
set_option maxRecDepth 100000 in
set_option maxHeartbeats 1600000 in
theorem imul1 (P Q D g : Nat) (v c : Value) (M : List (List Dw)) (b : List Dw) (w : World) (hx : w.heap[g]? = some (.cells #[v] 32 (0, 0))) (hv : DSM w P Q v M) (hc : DSl w D c b) (hM : ∀ r ∈ M, r.length = b.length ∧ ∀ x ∈ r, x.ok) (hb : ∀ x ∈ b, x.ok) (hl : b.length ≤ 16) (hn : M.length ≤ 1048576) :
    Calls Tryz.prog 89 #[c, .pointer (some ⟨g, 0, none⟩)] w fun e w' => (∃ r, e = .returned (.tuple #[r, .bool (M.all fun r => rowB r b)]) ∧ DSl w' w.heap.size r (if (M.all fun r => rowB r b) = true then M.map (fun r => rowV r b) else [])) ∧ Below w.heap.size w w' := by
  have H := Lib.hid (iapplyR P Q D v c M b w hv hc hM hb hl hn)
  have c0 := cell_at hx 0 _ rfl
  have hg := lt_of_block hx
  clear hM hb hl hn hx
  generalize (if (M.all fun r => rowB r b) = true then M.map (fun r => rowV r b) else []) = SL at *
  generalize (M.all fun r => rowB r b) = SB at *
  obtain ⟨a, cap, rfl, -, -⟩ := hv
  obtain ⟨a', cap', rfl, -, -⟩ := hc
  go_enter Tryz.func89, Tryz.ntmps89
  go_wp2_with fail
  refine (H.out).mono ?_
  rintro e w1 ⟨⟨q, rfl, hd⟩, hb1⟩
  have Hd := Lib.hid hd
  have Hb1 := Lib.hid hb1
  clear hd hb1
  go_wp2_with fail
  go_returns
  exact ⟨⟨_, rfl, Hd.out⟩, Hb1.out⟩
set_option maxRecDepth 100000 in
set_option maxHeartbeats 3200000 in
theorem imulM_yes (P Q R S : Nat) (v u : Value) (A B : List (List Dw)) (w : World) (hv : DSM w P Q v A) (hu : DSM w R S u B) (hA : mtB A = true) (hB : mtB B = true) (hl : A.length = B.length) (ha : EbM A) (hb : EbM B) (hn : A.length ≤ 1048576) (hn' : B.length ≤ 1048576) (hm : amps A ≤ 1048576) (hm' : amps B ≤ 1048576) :
    Calls Tryz.prog 58 #[v, u] w fun e w' => (∃ r, e = .returned (.tuple #[r, .bool (mulMB A B)]) ∧ DSM w' w.heap.size w'.heap.size r (mulM A B)) ∧ Below w.heap.size w w' := by
  have h16 := mtB_len hB
  have eF : ∀ args w, (callFunc 89 args).run Tryz.prog w = .ok (.enter 89 args) w := Tryz.call89
  have H1 := Lib.hid (fun W (h : DSM W P Q v A) (h' : DSM W R S u B) => iareM P Q R S v u A B W h h' ha hb hn hn' hm hm')
  simp only [hA, hB, decide_eq_true hl, Bool.and_self] at H1
  have H2 := Lib.hid (fun W (h : DSM W P Q v A) (h' : DSM W R S u B) (hx : W.heap[w.heap.size]? = some (.cells #[v] 32 (0, 0))) =>
    imapC 89 #[.pointer (some ⟨w.heap.size, 0, none⟩)] eF R S u B (fun k => appB A (col B k)) (fun k => appL A (col B k)) W h' (fun r hr => by rw [(mt_rows hB r hr).1]; exact Nat.le_refl _) hn' (fun k _ hk => (appL_len hk).trans hl)
      (fun k hk D c W' hW hc => by
        have h3 := imul1 P Q D w.heap.size v c A (col B k) W' ((hW.block _ (lt_of_block hx)).trans hx) (h.below hW) hc (fun r hr => by rw [col_len, ← hl]; exact mt_rows hA r hr) (stB_iff.1 (col_st hB hk)).1 (by rw [col_len]; exact h16) hn
        have hap := appB_of (M := A) (v := col B k) hA (col_st hB hk) (by rw [col_len]; exact hl)
        have hall : appL A (col B k) = if appB A (col B k) = true then A.map (fun r => rowV r (col B k)) else [] := rfl
        rw [← hap, ← hall] at h3
        exact h3))
  have hMB := mulMB_of hA hB hl
  have hM : mulM A B = if mulMB A B = true then colsM (mulML A B) else [] := rfl
  rw [hM, hMB, ← mulML_eq]
  generalize (if (List.range B.length).all (fun k => appB A (col B k)) = true then colsM (mapX B.length fun k => appL A (col B k)) else []) = SL at *
  generalize (List.range B.length).all (fun k => appB A (col B k)) = SB at *
  have Hb0 := Lib.hid (show Below w.heap.size w (w.alloc (.cells #[v] 32)) by go_grown)
  have HX := Lib.hid (heap_alloc_new w (.cells #[v] 32))
  have c0 := cell_at HX.out 0 _ rfl
  have Hv := Lib.hid (hv.below ((Below.refl _ _).alloc (Nat.le_refl _) (.cells #[v] 32)))
  have Hu := Lib.hid (hu.below ((Below.refl _ _).alloc (Nat.le_refl _) (.cells #[v] 32)))
  have H1 := Lib.hid (H1.out _ Hv.out Hu.out)
  clear hMB hM hA hB ha hb hm hm' hl hn hn' h16
  obtain ⟨a, cap, rfl, -, -⟩ := hv
  obtain ⟨a', cap', rfl, -, -⟩ := hu
  go_enter Tryz.func58, Tryz.ntmps58
  go_wp2_with fail
  refine (H1.out).mono ?_
  rintro e w1 ⟨rfl, hb1⟩
  have H3 := Lib.hid (H2.out w1 (Hv.out.below hb1) (Hu.out.below hb1) (below_blk hb1 (lt_of_block HX.out) HX.out))
  have Hb1 := Lib.hid (below_nx Hb0.out hb1)
  have hs1 := Hb1.out.size
  clear hb1 c0 H1 H2 HX
  go_wp2_with fail
  refine (H3.out).mono ?_
  rintro e w2 ⟨⟨q, rfl, hd⟩, hb2⟩
  have Hd := Lib.hid (hd.mono (D := w.heap.size) (E := w2.heap.size) hs1 (Nat.le_refl _))
  have Hb2 := Lib.hid (below_nx Hb1.out hb2)
  clear hd hb2 H3
  go_wp2_with fail
  go_returns
  exact ⟨⟨_, rfl, Hd.out⟩, Hb2.out⟩
set_option maxRecDepth 100000 in
set_option maxHeartbeats 1600000 in
theorem imulM (P Q R S : Nat) (v u : Value) (A B : List (List Dw)) (w : World) (hv : DSM w P Q v A) (hu : DSM w R S u B) (hA : EbM A) (hB : EbM B) (hn : A.length ≤ 1048576) (hn' : B.length ≤ 1048576) (hm : amps A ≤ 1048576) (hm' : amps B ≤ 1048576) :
    Calls Tryz.prog 58 #[v, u] w fun e w' => (∃ r, e = .returned (.tuple #[r, .bool (mulMB A B)]) ∧ DSM w' w.heap.size w'.heap.size r (mulM A B)) ∧ Below w.heap.size w w' := by
  cases hT : (mtB A && mtB B && decide (A.length = B.length)) with
  | true =>
    obtain ⟨⟨h1, h2⟩, h3⟩ : (mtB A = true ∧ mtB B = true) ∧ A.length = B.length := by simpa using hT
    exact imulM_yes P Q R S v u A B w hv hu h1 h2 h3 hA hB hn hn' hm hm'
  | false =>
    have h : mulMB A B = false := by unfold mulMB; rw [hT]; rfl
    rw [show mulM A B = [] from if_neg (by rw [h]; decide), h]
    have HX := Lib.hid (heap_alloc_new w (.cells #[v] 32))
    have c0 := cell_at HX.out 0 _ rfl
    have Hb0 := Lib.hid (show Below w.heap.size w (w.alloc (.cells #[v] 32)) by go_grown)
    have H1 := Lib.hid (iareM P Q R S v u A B (w.alloc (.cells #[v] 32)) (hv.below ((Below.refl _ _).alloc (Nat.le_refl _) _)) (hu.below ((Below.refl _ _).alloc (Nat.le_refl _) _)) hA hB hn hn' hm hm')
    rw [hT] at H1
    clear hA hB hT h
    obtain ⟨a, cap, rfl, hcap, -⟩ := hv
    obtain ⟨a', cap', rfl, hcap', -⟩ := hu
    go_enter Tryz.func58, Tryz.ntmps58
    go_wp2_with fail
    refine (H1.out).mono ?_
    rintro e w1 ⟨rfl, hb1⟩
    have Hb1 := Lib.hid (below_nx Hb0.out hb1)
    clear hb1
    go_wp2_with fail
    go_returns
    exact ⟨⟨_, rfl, DSM.nil⟩, Hb1.out⟩
end Go.Proofs.YtlmiebeffdcfhaaGreat
namespace Go.Proofs.YtlmiebeffdcfhaaGreat
open Go.RowKit
theorem Mid.next {B C : Nat} {w w1 w2 : World} (h : Mid B C w w1) (hb : Below w1.heap.size w1 w2) (hB : B ≤ w1.heap.size) : Mid B C w w2 :=
  ⟨h.1.trans (hb.mono hB), fun b hc hl => (hb.block b (Nat.lt_of_lt_of_le hl h.1.size)).trans (h.2 b hc hl)⟩
theorem adjM_get {M : List (List Dw)} (h : mtB M = true) {j : Nat} (hj : j < M.length) : (adjM M)[j]? = some ((col M j).map dConjV) := by
  rw [adjM_yes h, List.getElem?_map, List.getElem?_range hj]; rfl
attribute [local irreducible] World.cell?
set_option maxRecDepth 100000 in
set_option maxHeartbeats 6400000 in
theorem iadj_yes (B C : Nat) (v : Value) (M : List (List Dw)) (w : World) (hv : DSM w B C v M) (he : EbM M) (hM : mtB M = true) (hn : M.length ≤ 1048576) (hm : amps M ≤ 1048576) :
    Calls Tryz.prog 59 #[v] w fun e w' => ∃ u, e = .returned u ∧ DSM w' w.heap.size w'.heap.size u (adjM M) ∧ Below w.heap.size w w' := by
  have hlen := mtB_len hM
  have H1 := Lib.hid (ivalidMt B C v M w hv he hn hm)
  rw [hM] at H1
  have H2 := Lib.hid (fun W (h : DSM W B C v M) => itrans B C v M W h (fun r hr => by rw [(mt_rows hM r hr).1]; exact Nat.le_refl _) hn)
  have Hv := Lib.hid hv
  have HX := Lib.hid (fun (j : Nat) (hj : j < M.length) => adjM_get hM hj)
  have HY := Lib.hid (fun (j : Nat) (hj : j < M.length) => colsM_get (L := M) hj)
  have HXl := Lib.hid (adjM_len hM)
  have HYl := Lib.hid (colsM_len M)
  have HL := Lib.hid (fun (j : Nat) => col_len M j)
  have HE := Lib.hid (fun (j : Nat) (hj : j < M.length) => ok_Eb (stB_iff.1 (col_st hM hj)).1)
  generalize adjM M = X at *
  generalize colsM M = Y at *
  clear he hM hm
  obtain ⟨a, cap, rfl, hcap, -⟩ := hv
  go_enter Tryz.func59, Tryz.ntmps59
  go_wp2_with fail
  refine (H1.out).mono ?_
  rintro e w1 ⟨rfl, hb1⟩
  have Hb1 := Lib.hid hb1
  have Hv1 := Lib.hid (Hv.out.below hb1)
  have hs1 := hb1.size
  clear hb1
  go_wp2_with fail
  refine (H2.out _ Hv1.out).mono ?_
  rintro e w2 ⟨c, rfl, hdc, hb2⟩
  have Hb2 := Lib.hid (Hb1.out.trans (hb2.mono hs1))
  have hs12 := hb2.size
  obtain ⟨ca, cc, rfl, hcc, hcr⟩ := hdc
  have Hcr := Lib.hid hcr
  rw [HYl.out] at hcc ⊢
  clear hb2 hcr Hv1 H1 H2
  go_wp2_with fail
  go_loopg [15] M.length (fun n i wr => ∃ j : Nat, n = M.length - j ∧ j ≤ M.length ∧ i = .int .i64 j ∧ Hid (0 < M.length → ∃ g, ca = some ⟨g, 0, none⟩ ∧ w1.heap.size ≤ g ∧ MRow wr w1.heap.size w2.heap.size g (X.take j ++ Y.drop j)) ∧ Hid (Below w.heap.size w wr) ∧ w2.heap.size ≤ wr.heap.size)
  case atStart => exact ⟨0, rfl, Nat.zero_le _, rfl, Lib.hid (fun h0 => by obtain ⟨g, e, h1, h2, h3⟩ := Hcr.out (by rw [HYl.out]; exact h0); exact ⟨g, e, h1, by simpa using h3⟩), Hb2, Nat.le_refl _⟩
  case round =>
    obtain ⟨j, rfl, hj, rfl, Hrow, Hb, hsz⟩ := hrel
    obtain ⟨wo, hwo⟩ : ∃ wo, wo = wr := ⟨wr, rfl⟩
    subst hwo
    have hs := Hb.out.size
    by_cases hlt : j < M.length
    · obtain ⟨g, rfl, hg1, hrow⟩ := Hrow.out (by omega)
      have hjX : j < X.length := by have := HXl.out; omega
      have hgl := hrow.lt
      obtain ⟨p, pc, b, c, c0, hB, hbc, hC, hd, Hk⟩ := hrow.turn (mix_at hjX (HY.out j hlt))
      have hCw : c ≤ w2.heap.size := by omega
      have Hst := Lib.hid (mix_set (X := X) (Y := Y) (by rw [HXl.out, HYl.out]) (HX.out j hlt))
      have Hk2 := Lib.hid Hk
      have HEj := Lib.hid (HE.out j hlt)
      have hcl := HL.out j
      have Hd := Lib.hid hd
      clear hrow Hk hd
      generalize col M j = r at *
      rw [hcl] at c0 Hd Hk2
      have Hcl := Lib.hid hcl
      clear hcl
      go_wp2_with fail
      go_loopg [21] M.length (fun n i wi => ∃ k : Nat, n = M.length - k ∧ k ≤ M.length ∧ i = .int .i64 k ∧ Hid (DSc wi b c (.slice p M.length pc) ((r.map dConjV).take k ++ r.drop k)) ∧ Hid (Mid b c wo wi))
      case atStart => exact ⟨0, rfl, Nat.zero_le _, rfl, by simpa using Hd, Mid.refl _ _ _⟩
      case round =>
        obtain ⟨k, rfl, hk, rfl, Hdi, Hmi⟩ := hrel
        have hsi := Hmi.out.1.size
        by_cases hlk : k < M.length
        · obtain ⟨x, hx⟩ : ∃ x, r[k]? = some x := ⟨r[k]'(by have := Hcl.out; omega), List.getElem?_eq_getElem _⟩
          have hml : ((r.map dConjV).take k ++ r.drop k).length = M.length := by have := Hcl.out; simp; omega
          obtain ⟨p', pc', hpe, hpc, hpr⟩ := Hdi.out
          injection hpe with hpe1 hpe2 hpe3
          subst hpe1 hpe3
          obtain ⟨g2, rfl, hgB, hgC, hri⟩ := hpr (by omega)
          have hpc2 : M.length ≤ pc := by rw [← hml]; exact hpc
          have hgl2 := hri.lt
          obtain ⟨x0, x1, x2, x3, x4⟩ := hri.cells (turn_at (f := dConjV) hx)
          have hex := HEj.out x (List.mem_of_getElem? hx)
          have Hx := Lib.hid (fun w => iconjD_any x w hex.1 hex.2)
          have Hri := Lib.hid (show DRow (wr.alloc (.cells #[.int .i64 x.n.a, .int .i64 x.n.b, .int .i64 x.n.c, .int .i64 x.n.d, .int .i64 x.e] 70)) g2 _ from hri.alloc (.cells #[.int .i64 x.n.a, .int .i64 x.n.b, .int .i64 x.n.c, .int .i64 x.n.d, .int .i64 x.e] 70))
          have Hma := Lib.hid (Hmi.out.next ((Below.refl _ _).alloc (Nat.le_refl _) (.cells #[.int .i64 x.n.a, .int .i64 x.n.b, .int .i64 x.n.c, .int .i64 x.n.d, .int .i64 x.e] 70)) (by omega))
          clear hri hpr hpe2 hex
          go_wp2_with fail
          refine (Hx.out _).mono ?_
          rintro e wj ⟨rfl, hbj⟩
          have hrj := Hri.out.below hbj Hri.out.lt
          obtain ⟨d0, d1, d2, d3, d4⟩ := hrj.cells (turn_at (f := dConjV) hx)
          have f1 := fun o => hrj.free o
          have hgj := hrj.lt
          have hr3 := hrj.put k (by omega) (dConjV x)
          rw [turn_set hx] at hr3
          have hml3 : ((r.map dConjV).take (k + 1) ++ r.drop (k + 1)).length = M.length := by have := Hcl.out; simp; omega
          have Hr3 := Lib.hid hr3
          have hwj := Hma.out.1.size
          have Hmj := Lib.hid ((((((Hma.out.next hbj (by omega)).set hgB hgC (o := k * 5) (.int .i64 (dConjV x).n.a)).set hgB hgC (o := k * 5 + 1) (.int .i64 (dConjV x).n.b)).set hgB hgC (o := k * 5 + 2) (.int .i64 (dConjV x).n.c)).set hgB hgC (o := k * 5 + 3) (.int .i64 (dConjV x).n.d)).set hgB hgC (o := k * 5 + 4) (.int .i64 (dConjV x).e))
          clear x0 x1 x2 x3 x4 hr3 hrj hbj Hri Hma Hmi Hx hx Hdi hml
          generalize dConjV x = y at *
          go_wp2_with fail
          go_roundg (M.length - (k + 1))
          case measure => omega
          case rel => exact ⟨k + 1, rfl, by omega, by go_num, Lib.hid ⟨_, _, by rw [hml3], by rw [hml3]; exact hpc2, fun _ => ⟨g2, rfl, hgB, hgC, Hr3.out⟩⟩, Hmj⟩
        · obtain rfl : k = M.length := by omega
          have hdi := Hdi.out
          rw [List.take_of_length_le (by rw [List.length_map, Hcl.out]; exact Nat.le_refl _), List.drop_of_length_le (by rw [Hcl.out]; exact Nat.le_refl _), List.append_nil] at hdi
          have hrow2 := Hk2.out wr (r.map dConjV) (by rw [List.length_map]; exact Hcl.out) hdi Hmi.out
          rw [Hst.out] at hrow2
          have Hrow2 := Lib.hid hrow2
          have Hb3 := Lib.hid (Hb.out.trans (Hmi.out.1.mono (by omega)))
          clear hdi hrow2 Hdi Hmi Hk2 Hrow Hb Hd
          go_wp2_with fail
          go_roundg (M.length - (j + 1))
          case measure => omega
          case rel => exact ⟨j + 1, rfl, by omega, by go_num, Lib.hid (fun _ => ⟨g, rfl, hg1, Hrow2.out⟩), Hb3, by omega⟩
    · obtain rfl : j = M.length := by omega
      have hrow := Hrow.out
      have Hd := Lib.hid (show DSM wo w.heap.size wo.heap.size (.slice ca M.length cc) X from ⟨_, _, by rw [HXl.out], by rw [HXl.out]; exact hcc, fun h0 => by
        rw [HXl.out] at h0
        obtain ⟨g, e, h1, h2⟩ := hrow h0
        refine ⟨g, e, by omega, h2.lt, ?_⟩
        rw [List.take_of_length_le (by rw [HXl.out]; exact Nat.le_refl _), List.drop_of_length_le (by rw [HYl.out]; exact Nat.le_refl _), List.append_nil] at h2
        exact h2.mono hs1 hsz⟩)
      clear hrow Hrow
      go_wp2_with fail
      go_ret
      exact ⟨_, rfl, Hd.out, Hb.out⟩
theorem iadj (B C : Nat) (v : Value) (M : List (List Dw)) (w : World) (hv : DSM w B C v M) (he : EbM M) (hn : M.length ≤ 1048576) (hm : amps M ≤ 1048576) :
    Calls Tryz.prog 59 #[v] w fun e w' => ∃ u, e = .returned u ∧ DSM w' w.heap.size w'.heap.size u (adjM M) ∧ Below w.heap.size w w' := by
  cases hM : mtB M with
  | true => exact iadj_yes B C v M w hv he hM hn hm
  | false =>
    rw [adjM_no hM]
    have H1 := Lib.hid (ivalidMt B C v M w hv he hn hm)
    rw [hM] at H1
    clear hM he
    obtain ⟨a, cap, rfl, hcap, -⟩ := hv
    go_enter Tryz.func59, Tryz.ntmps59
    go_wp2_with fail
    refine (H1.out).mono ?_
    rintro e w1 ⟨rfl, hb1⟩
    have Hb1 := Lib.hid hb1
    clear hb1
    go_wp2_with fail
    go_ret
    exact ⟨_, rfl, DSM.nil, Hb1.out⟩
theorem adjM_ebM (M : List (List Dw)) : EbM (adjM M) := by
  cases h : mtB M with
  | false => rw [adjM_no h]; intro r hr; cases hr
  | true =>
    rw [adjM_yes h]
    intro r hr x hx
    obtain ⟨i, -, rfl⟩ := List.mem_map.1 hr
    obtain ⟨y, -, rfl⟩ := List.mem_map.1 hx
    exact eb_conj y
theorem mulMB_mt {A B : List (List Dw)} (h : mulMB A B = true) : mtB B = true := by
  unfold mulMB at h
  simp only [Bool.and_eq_true] at h
  exact h.1.1.2
set_option maxRecDepth 100000 in
set_option maxHeartbeats 3200000 in
theorem iuni (B C : Nat) (v : Value) (M : List (List Dw)) (w : World) (hv : DSM w B C v M) (he : EbM M) (hn : M.length ≤ 1048576) (hm : amps M ≤ 1048576) :
    Calls Tryz.prog 22 #[v] w fun e w' => e = .returned (.bool (uniB M)) ∧ Below w.heap.size w w' := by
  have Hv := Lib.hid hv
  have H2 := Lib.hid (iadj B C v M w hv he hn hm)
  have ha := adjM_amps M
  have H3 := Lib.hid (fun P Q u W (h : DSM W P Q u (adjM M)) (h' : DSM W B C v M) => imulM P Q B C u v (adjM M) M W h h' (adjM_ebM M) he (by omega) hn (by omega) hm)
  have hmu := mulM_amps (adjM M) M
  have hid := idM_amps (qc M.length)
  have H4 := Lib.hid (fun P Q R S u x W (h : DSM W P Q u (mulM (adjM M) M)) (h' : DSM W R S x (idM (qc M.length))) => iequalMt P Q R S u x (mulM (adjM M) M) (idM (qc M.length)) W h h' (by omega) (by omega) (by omega) (by omega))
  have hqr := qc_range M.length
  have H5 := Lib.hid (fun W => iident (qc M.length) W (by omega) (by omega))
  have hU : uniB M = (mulMB (adjM M) M && decide (mulM (adjM M) M = idM (qc M.length))) := by
    unfold uniB
    cases h : mulMB (adjM M) M with
    | false => simp
    | true => rw [mulMB_mt h]; rfl
  have HMt := Lib.hid (fun (h : mulMB (adjM M) M = true) => mulMB_mt h)
  obtain ⟨T, hT⟩ : ∃ T, T = uniB M := ⟨_, rfl⟩
  rw [← hT]
  have HT := Lib.hid (hT.trans hU)
  have Hq := Lib.hid (fun a cap W => iqubits0 a M.length cap W)
  clear hT hU ha hmu hid he hm
  generalize mulM (adjM M) M = X at *
  generalize mulMB (adjM M) M = t at *
  generalize adjM M = Y at *
  generalize idM (qc M.length) = I at *
  generalize qc M.length = n at *
  obtain ⟨a, cap, rfl, hcap, hg⟩ := hv
  have Hg := Lib.hid hg
  clear hg
  go_enter Tryz.func22, Tryz.ntmps22
  go_wp2_with fail
  refine (H2.out).mono ?_
  rintro e w2 ⟨y, rfl, hdy, hb2⟩
  have Hb2 := Lib.hid hb2
  have Hm := Lib.hid (H3.out _ _ y w2 hdy (Hv.out.below hb2))
  clear hb2 hdy H3
  go_wp2_with fail
  refine (Hm.out).mono ?_
  rintro e w3 ⟨⟨x, rfl, hdx⟩, hb3⟩
  have Hb3 := Lib.hid (Hb2.out.trans (hb3.mono Hb2.out.size))
  have Hdx := Lib.hid hdx
  clear hb3 hdx Hb2 Hm
  cases t with
  | false =>
    obtain rfl : T = false := HT.out
    go_wp2_with fail
    go_returns
    exact ⟨rfl, Hb3.out⟩
  | true =>
    have hM := HMt.out rfl
    have h0 := (mtB_iff.1 hM).1
    obtain ⟨r, hr⟩ : ∃ r, M[0]? = some r := ⟨M[0], List.getElem?_eq_getElem h0⟩
    have hrl := (mtB_row hM hr).1
    obtain ⟨g, rfl, hgB, hgC, hrow⟩ := Hg.out h0
    have r3 := hrow.block (Hb3.out.block _ hrow.lt) fun k _ _ hk => Hb3.out.block k hk
    obtain ⟨p, pc, c0, -⟩ := r3.cell hr
    rw [hrl] at c0
    have hgl := r3.lt
    clear hM r3 hrow hr hrl
    go_wp2_with fail
    refine (Hq.out _ _ _).mono ?_
    rintro e w4 ⟨rfl, rfl⟩
    go_wp2_with fail
    refine (H5.out _).mono ?_
    rintro e w5 ⟨z, rfl, hdz, hb5⟩
    have Hb5 := Lib.hid (Hb3.out.trans (hb5.mono Hb3.out.size))
    have He := Lib.hid (H4.out _ _ _ _ x z w5 (Hdx.out.below hb5) hdz)
    clear hb5 hdz Hb3
    have hTe : T = decide (X = I) := HT.out
    rw [← hTe] at He
    clear hTe
    go_wp2_with fail
    refine (He.out).mono ?_
    rintro e w6 ⟨rfl, hb6⟩
    have Hb6 := Lib.hid (Hb5.out.trans (hb6.mono Hb5.out.size))
    clear hb6
    go_wp2_with fail
    go_returns
    exact ⟨rfl, Hb6.out⟩
end Go.Proofs.YtlmiebeffdcfhaaGreat
