/- BaseB17: several of our texts in one: MtKd MtKg PmN. -/
import Derived.Test.YtfmgjhaofbdlpaaMtKa
import Derived.Test.YtfmgjhaofbdlpaaMtKb
import Derived.Test.YtfmgjhaofbdlpaaBaseB11
namespace Go.Proofs.Ytfmgjhaofbdlpaa
open Go.RowKit
theorem mt_rows {M : List (List Dw)} (h : mtB M = true) : ∀ r ∈ M, r.length = M.length ∧ ∀ x ∈ r, x.ok := fun r hr => ⟨((mtB_iff.1 h).2 r hr).1, (stB_iff.1 ((mtB_iff.1 h).2 r hr).2).1⟩
theorem col_st {M : List (List Dw)} (h : mtB M = true) {k : Nat} (hk : k < M.length) : stB (col M k) = true := by
  refine stB_iff.2 ⟨fun x hx => ?_, by rw [col_len]; exact mtB_qc h⟩
  obtain ⟨r, hr, rfl⟩ := List.mem_map.1 hx
  obtain ⟨hl, ho⟩ := mt_rows h r hr
  have : k < r.length := by omega
  rw [List.getD_eq_getElem?_getD, List.getElem?_eq_getElem this]
  exact ho _ (List.getElem_mem _)
attribute [local irreducible] World.cell?
end Go.Proofs.Ytfmgjhaofbdlpaa
namespace Go.Proofs.Ytfmgjhaofbdlpaa
open Go.RowKit
attribute [local irreducible] World.cell?
theorem mix_at {X Y : List (List Dw)} {j : Nat} (hX : j < X.length) {r : List Dw} (hr : Y[j]? = some r) : (X.take j ++ Y.drop j)[j]? = some r := by
  rw [List.getElem?_append_right (by simp; omega), List.getElem?_drop]
  rw [show j + (j - (X.take j).length) = j by simp; omega]
  exact hr
theorem mix_set {X Y : List (List Dw)} {j : Nat} (hl : X.length = Y.length) {r : List Dw} (hr : X[j]? = some r) : (X.take j ++ Y.drop j).set j r = X.take (j + 1) ++ Y.drop (j + 1) := by
  have h : j < X.length := by
    rcases Nat.lt_or_ge j X.length with h' | h'
    · exact h'
    · rw [List.getElem?_eq_none h'] at hr; cases hr
  have e : Y.drop j = Y[j]'(by omega) :: Y.drop (j + 1) := (List.getElem_cons_drop ..).symm
  rw [List.set_append_right _ _ (by simp; omega), show j - (X.take j).length = 0 by simp; omega, e, List.set_cons_zero, List.take_add_one, hr, List.append_assoc]
  rfl
theorem mulML_get {A B : List (List Dw)} {j : Nat} (hj : j < B.length) : (mulML A B)[j]? = some (appL A (col B j)) := by
  rw [mulML, List.getElem?_map, List.getElem?_range hj]; rfl
set_option maxRecDepth 100000 in
set_option maxHeartbeats 6400000 in
theorem imulM_yes (P Q R S : Nat) (v u : Value) (A B : List (List Dw)) (w : World) (hv : DSM w P Q v A) (hu : DSM w R S u B) (hA : mtB A = true) (hB : mtB B = true) (hl : A.length = B.length) (ha : EbM A) (hb : EbM B) (hn : A.length ≤ 1048576) (hn' : B.length ≤ 1048576) (hm : amps A ≤ 1048576) (hm' : amps B ≤ 1048576) :
    Calls Try.prog 53 #[v, u] w fun e w' => (∃ r, e = .returned (.tuple #[r, .bool (mulMB A B)]) ∧ DSM w' w.heap.size w'.heap.size r (mulM A B)) ∧ Below w.heap.size w w' := by
  have h16 := mtB_len hB
  have H1 := Lib.hid (iareM P Q R S v u A B w hv hu ha hb hn hn' hm hm')
  simp only [hA, hB, decide_eq_true hl, Bool.and_self] at H1
  have H2 := Lib.hid (fun W (h : DSM W R S u B) => itrans R S u B W h (fun r hr => by rw [(mt_rows hB r hr).1]; exact Nat.le_refl _) hn')
  have H3 := Lib.hid (fun (k : Nat) (hk : k < B.length) (D : Nat) (c : Value) W (h : DSM W P Q v A) (h' : DSl W D c (col B k)) => by
    have h3 := iapplyR P Q D v c A (col B k) W h h' (fun r hr => by rw [col_len, ← hl]; exact mt_rows hA r hr) (stB_iff.1 (col_st hB hk)).1 (by rw [col_len]; exact h16) hn
    have hap := appB_of (M := A) (v := col B k) hA (col_st hB hk) (by rw [col_len]; exact hl)
    have hall : appL A (col B k) = if appB A (col B k) = true then A.map (fun r => rowV r (col B k)) else [] := rfl
    rw [← hap, ← hall] at h3
    exact h3)
  have Hv := Lib.hid hv
  have Hu := Lib.hid hu
  have hMB := mulMB_of hA hB hl
  obtain ⟨SB, hSB⟩ : ∃ SB, SB = mulMB A B := ⟨_, rfl⟩
  obtain ⟨SL, hSL⟩ : ∃ SL, SL = mulM A B := ⟨_, rfl⟩
  rw [← hSB, ← hSL]
  have HSB := Lib.hid (hSB.trans hMB)
  have HSL := Lib.hid (show SL = if SB then colsM (mulML A B) else [] by rw [hSB]; exact hSL)
  have Hlen := Lib.hid (fun (k : Nat) (h : appB A (col B k) = true) => (appL_len h).trans hl)
  have HX := Lib.hid (fun (j : Nat) (hj : j < B.length) => mulML_get (A := A) hj)
  have HY := Lib.hid (fun (j : Nat) (hj : j < B.length) => colsM_get (L := B) hj)
  have HXl := Lib.hid (mulML_len A B)
  have HYl := Lib.hid (colsM_len B)
  have HT := Lib.hid (fun (D E : Nat) (c : Value) W (h : DSM W D E c (mulML A B)) (hr : ∀ r ∈ mulML A B, (mulML A B).length ≤ r.length) => itrans D E c (mulML A B) W h hr (by rw [mulML_len]; exact hn'))
  have HM := Lib.hid (fun r (h : r ∈ mulML A B) => List.mem_map.1 h)
  generalize mulML A B = X at *
  generalize colsM B = Y at *
  clear hMB hSB hSL hA hB ha hb hm hm' hl hn
  obtain ⟨a, cap, rfl, hcap, -⟩ := hv
  obtain ⟨a', cap', rfl, hcap', -⟩ := hu
  go_enter Try.func53, Try.ntmps53
  go_wp2_with fail
  refine (H1.out).mono ?_
  rintro e w1 ⟨rfl, hb1⟩
  have Hb1 := Lib.hid hb1
  have Hu1 := Lib.hid (Hu.out.below hb1)
  clear hb1
  go_wp2_with fail
  refine (H2.out _ Hu1.out).mono ?_
  rintro e w2 ⟨c, rfl, hdc, hb2⟩
  have hs1 := Hb1.out.size
  have Hb2 := Lib.hid (Hb1.out.trans (hb2.mono hs1))
  have hs2 := Hb2.out.size
  have hs12 := hb2.size
  obtain ⟨ca, cc, rfl, hcc, hcr⟩ := hdc
  have Hcr := Lib.hid hcr
  rw [HYl.out] at hcc ⊢
  clear hb2 hcr Hu1 H1 H2
  go_wp2_with fail
  go_loopg [19] B.length (fun n i wr => ∃ j : Nat, n = B.length - j ∧ j ≤ B.length ∧ i = .int .i64 j ∧ Hid (0 < B.length → ∃ g, ca = some ⟨g, 0, none⟩ ∧ w1.heap.size ≤ g ∧ MRow wr w1.heap.size wr.heap.size g (X.take j ++ Y.drop j)) ∧ Hid (∀ k, k < j → appB A (col B k) = true) ∧ Hid (Below w.heap.size w wr) ∧ w2.heap.size ≤ wr.heap.size)
  case atStart => exact ⟨0, rfl, Nat.zero_le _, rfl, Lib.hid (fun h0 => by obtain ⟨g, e, h1, h2, h3⟩ := Hcr.out (by rw [HYl.out]; exact h0); exact ⟨g, e, h1, by simpa using h3⟩), Lib.hid (fun k hk => absurd hk (Nat.not_lt_zero _)), Hb2, Nat.le_refl _⟩
  case round =>
    obtain ⟨j, rfl, hj, rfl, Hrow, Hall, Hb, hsz⟩ := hrel
    have hs := Hb.out.size
    by_cases hlt : j < B.length
    · obtain ⟨g, rfl, hg1, hrow⟩ := Hrow.out (by omega)
      have hXj := HX.out j hlt
      have hjX : j < X.length := by have := HXl.out; omega
      obtain ⟨p, pc, c0, hd1⟩ := hrow.cell (mix_at hjX (HY.out j hlt))
      have hgl := hrow.lt
      have Hc := Lib.hid (H3.out j hlt _ _ wr (Hv.out.block fun k _ _ hk => Hb.out.block k hk) hd1.dsl)
      have Hst := Lib.hid (mix_set (X := X) (Y := Y) (by rw [HXl.out, HYl.out]) hXj)
      have Hat := Lib.hid (fun (h : appB A (col B j) = true) k (hk : k < j + 1) => by
        rcases Nat.lt_succ_iff_lt_or_eq.1 hk with h' | rfl
        · exact Hall.out k h'
        · exact h)
      have Hno := Lib.hid (fun (h : appB A (col B j) = false) => (show ((List.range B.length).all fun k => appB A (col B k)) = false from by
        rw [List.all_eq_false]; exact ⟨j, List.mem_range.2 hlt, by rw [h]; decide⟩))
      have Hrw := Lib.hid hrow
      have hmix := mix_at hjX (HY.out j hlt)
      have HmixL := Lib.hid (show j < (X.take j ++ Y.drop j).length by
        rcases Nat.lt_or_ge j (X.take j ++ Y.drop j).length with k | k
        · exact k
        · rw [List.getElem?_eq_none k] at hmix; cases hmix)
      clear hd1 hrow hXj hmix
      generalize appB A (col B j) = t at *
      generalize appL A (col B j) = r at *
      go_wp2_with fail
      refine (Hc.out).mono ?_
      rintro e w3 ⟨⟨q, rfl, hdq⟩, hb3⟩
      have Hb3 := Lib.hid (Hb.out.trans (hb3.mono hs))
      have hs3 := Hb3.out.size
      cases t with
      | false =>
        obtain rfl : SB = false := HSB.out.trans (Hno.out rfl)
        obtain rfl : SL = [] := HSL.out
        clear hdq hb3
        go_wp2_with fail
        go_returns
        exact ⟨⟨_, rfl, DSM.nil⟩, Hb3.out⟩
      | true =>
        have hr2 := Hrw.out.block (hb3.block _ Hrw.out.lt) fun k _ _ hk => hb3.block k hk
        have f1 := fun o => hr2.free o
        obtain ⟨a9, c9, e0, -⟩ := hr2.cell (mix_at hjX (HY.out j hlt))
        have hgl3 := Nat.lt_of_lt_of_le hgl hb3.size
        have hr3 := Hrw.out.put (j := j) HmixL.out hdq.upto (by omega) hb3.size fun k hk => hb3.block k hk
        rw [Hst.out] at hr3
        have Hr3 := Lib.hid hr3
        have hsz3 := Nat.le_trans hsz hb3.size
        obtain ⟨a2, cap3, rfl, -, -⟩ := hdq
        clear hr3 hr2 hb3 Hrow Hrw Hc Hb c0
        go_wp2_with fail
        go_roundg (B.length - (j + 1))
        case measure => omega
        case rel =>
          refine ⟨j + 1, rfl, by omega, by go_num, Lib.hid (fun _ => ⟨g, rfl, hg1, by simpa using Hr3.out⟩), Lib.hid (Hat.out trivial), ?_, by simpa using hsz3⟩
          have := Hb3.out
          show Below _ _ _
          go_grown
    · obtain rfl : j = B.length := by omega
      have hall : ((List.range B.length).all fun k => appB A (col B k)) = true := by
        rw [List.all_eq_true]; exact fun k hk => Hall.out k (List.mem_range.1 hk)
      obtain rfl : SB = true := HSB.out.trans hall
      obtain rfl : SL = colsM X := HSL.out
      have hrow := Hrow.out
      have hd : DSM wr w1.heap.size wr.heap.size (.slice ca B.length cc) X := ⟨_, _, by rw [HXl.out], by rw [HXl.out]; exact hcc, fun h0 => by
        rw [HXl.out] at h0
        obtain ⟨g, e, h1, h2⟩ := hrow h0
        refine ⟨g, e, h1, h2.lt, ?_⟩
        rw [List.take_of_length_le (by rw [HXl.out]; exact Nat.le_refl _), List.drop_of_length_le (by rw [HYl.out]; exact Nat.le_refl _), List.append_nil] at h2
        exact h2⟩
      have Hcs := Lib.hid (HT.out _ _ _ wr hd (fun r hr => by
        obtain ⟨k, hk, rfl⟩ := HM.out r hr
        rw [HXl.out, Hlen.out k (Hall.out k (List.mem_range.1 hk))]
        exact Nat.le_refl _))
      clear hrow hd Hrow
      go_wp2_with fail
      refine (Hcs.out).mono ?_
      rintro e w6 ⟨q, rfl, hdq, hb6⟩
      have Hdq := Lib.hid (hdq.mono (D := w.heap.size) (E := w6.heap.size) hs (Nat.le_refl _))
      have Hb6 := Lib.hid (Hb.out.trans (hb6.mono hs))
      clear hb6 hdq
      go_wp2_with fail
      go_returns
      exact ⟨⟨_, rfl, Hdq.out⟩, Hb6.out⟩
theorem imulM (P Q R S : Nat) (v u : Value) (A B : List (List Dw)) (w : World) (hv : DSM w P Q v A) (hu : DSM w R S u B) (hA : EbM A) (hB : EbM B) (hn : A.length ≤ 1048576) (hn' : B.length ≤ 1048576) (hm : amps A ≤ 1048576) (hm' : amps B ≤ 1048576) :
    Calls Try.prog 53 #[v, u] w fun e w' => (∃ r, e = .returned (.tuple #[r, .bool (mulMB A B)]) ∧ DSM w' w.heap.size w'.heap.size r (mulM A B)) ∧ Below w.heap.size w w' := by
  cases hT : (mtB A && mtB B && decide (A.length = B.length)) with
  | true =>
    obtain ⟨⟨h1, h2⟩, h3⟩ : (mtB A = true ∧ mtB B = true) ∧ A.length = B.length := by simpa using hT
    exact imulM_yes P Q R S v u A B w hv hu h1 h2 h3 hA hB hn hn' hm hm'
  | false =>
    have h : mulMB A B = false := by unfold mulMB; rw [hT]; rfl
    rw [show mulM A B = [] from if_neg (by rw [h]; decide), h]
    have H1 := Lib.hid (iareM P Q R S v u A B w hv hu hA hB hn hn' hm hm')
    rw [hT] at H1
    clear hA hB hT h
    obtain ⟨a, cap, rfl, hcap, -⟩ := hv
    obtain ⟨a', cap', rfl, hcap', -⟩ := hu
    go_enter Try.func53, Try.ntmps53
    go_wp2_with fail
    refine (H1.out).mono ?_
    rintro e w1 ⟨rfl, hb1⟩
    have Hb1 := Lib.hid hb1
    clear hb1
    go_wp2_with fail
    go_returns
    exact ⟨⟨_, rfl, DSM.nil⟩, Hb1.out⟩
end Go.Proofs.Ytfmgjhaofbdlpaa
namespace Go.Proofs.Ytfmgjhaofbdlpaa
def umB (p : List Int) : Bool := uniB (pmM p) && decide (adjM (pmM p) = pmM (invP p))
theorem um_0 : (allP.take 9).all umB = true := by decide +kernel
theorem um_1 : ((allP.drop 9).take 6).all umB = true := by decide +kernel
theorem um_2 : ((allP.drop 15).take 6).all umB = true := by decide +kernel
theorem um_3 : ((allP.drop 21).take 6).all umB = true := by decide +kernel
theorem um_4 : (allP.drop 27).all umB = true := by decide +kernel
theorem um_all : allP.all umB = true := by
  have e : allP = allP.take 9 ++ ((allP.drop 9).take 6 ++ ((allP.drop 15).take 6 ++ ((allP.drop 21).take 6 ++ allP.drop 27))) := by
    rw [show (allP.drop 21).take 6 ++ allP.drop 27 = allP.drop 21 from by rw [show allP.drop 27 = (allP.drop 21).drop 6 by rw [List.drop_drop]]; exact List.take_append_drop ..]
    rw [show (allP.drop 15).take 6 ++ allP.drop 21 = allP.drop 15 from by rw [show allP.drop 21 = (allP.drop 15).drop 6 by rw [List.drop_drop]]; exact List.take_append_drop ..]
    rw [show (allP.drop 9).take 6 ++ allP.drop 15 = allP.drop 9 from by rw [show allP.drop 15 = (allP.drop 9).drop 6 by rw [List.drop_drop]]; exact List.take_append_drop ..]
    exact (List.take_append_drop 9 allP).symm
  rw [e]
  simp only [List.all_append, um_0, um_1, um_2, um_3, um_4, Bool.and_self]
theorem um_facts {p : List Int} (h : permB p = true) : uniB (pmM p) = true ∧ adjM (pmM p) = pmM (invP p) := by
  have h1 := List.all_eq_true.1 um_all p (perm_mem h)
  unfold umB at h1
  rw [Bool.and_eq_true, decide_eq_true_eq] at h1
  exact h1
end Go.Proofs.Ytfmgjhaofbdlpaa
