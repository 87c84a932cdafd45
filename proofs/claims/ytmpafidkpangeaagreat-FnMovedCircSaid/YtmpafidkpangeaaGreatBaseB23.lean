/- BaseB23: several of our texts in one: MtKd MtKh. -/
import Derived.Test.YtmpafidkpangeaaGreatMtKa
import Derived.Test.YtmpafidkpangeaaGreatBaseB22
import Derived.Test.YtmpafidkpangeaaGreatBaseB21
namespace Go.Proofs.YtmpafidkpangeaaGreat
open Go.RowKit
attribute [local irreducible] World.cell?
end Go.Proofs.YtmpafidkpangeaaGreat
namespace Go.Proofs.YtmpafidkpangeaaGreat
open Go.RowKit
attribute [local irreducible] World.cell?
theorem mix_at {X Y : List (List Dw)} {j : Nat} (hX : j < X.length) {r : List Dw} (hr : Y[j]? = some r) : (X.take j ++ Y.drop j)[j]? = some r := by
  rw [List.getElem?_append_right (by simp; omega), List.getElem?_drop]
  rw [show j + (j - (X.take j).length) = j by simp; omega]
  exact hr
theorem mix_set {X Y : List (List Dw)} {j : Nat} (hl : X.length = Y.length) {r : List Dw} (hr : X[j]? = some r) : (X.take j ++ Y.drop j).set j r = X.take (j + 1) ++ Y.drop (j + 1) := by
  have h : j < X.length := by
    rcases Nat.lt_or_ge j X.length with h' | h'
    · exact h'
    · rw [List.getElem?_eq_none h'] at hr; cases hr
  have e : Y.drop j = Y[j]'(by omega) :: Y.drop (j + 1) := (List.getElem_cons_drop ..).symm
  rw [List.set_append_right _ _ (by simp; omega), show j - (X.take j).length = 0 by simp; omega, e, List.set_cons_zero, List.take_add_one, hr, List.append_assoc]
  rfl
def mapX (n : Nat) (r : Nat → List Dw) : List (List Dw) := (List.range n).map r
theorem mapX_len (n : Nat) (r : Nat → List Dw) : (mapX n r).length = n := by rw [mapX, List.length_map, List.length_range]
theorem mapX_get {n : Nat} {r : Nat → List Dw} {j : Nat} (hj : j < n) : (mapX n r)[j]? = some (r j) := by
  rw [mapX, List.getElem?_map, List.getElem?_range hj]; rfl
set_option maxRecDepth 100000 in
set_option maxHeartbeats 6400000 in
theorem imapC (F : Nat) (C : Array Value) (eF : ∀ args w, (callFunc F args).run Tryz.prog w = .ok (.enter F args) w) (R S : Nat) (u : Value) (B : List (List Dw)) (t : Nat → Bool) (r : Nat → List Dw) (w : World) (hu : DSM w R S u B) (hk : ∀ r ∈ B, B.length ≤ r.length) (hn : B.length ≤ 1048576) (hr : ∀ k, k < B.length → t k = true → (r k).length = B.length)
    (hF : ∀ k, k < B.length → ∀ D c W, Below w.heap.size w W → DSl W D c (col B k) → Calls Tryz.prog F (#[c] ++ C) W fun e w' => (∃ q, e = .returned (.tuple #[q, .bool (t k)]) ∧ DSl w' W.heap.size q (r k)) ∧ Below W.heap.size W w') :
    Calls Tryz.prog 94 #[u, .func (.func F) #[] C] w fun e w' => (∃ v, e = .returned (.tuple #[v, .bool ((List.range B.length).all t)]) ∧ DSM w' w.heap.size w'.heap.size v (if (List.range B.length).all t = true then colsM (mapX B.length r) else [])) ∧ Below w.heap.size w w' := by
  have H2 := Lib.hid (fun W (h : DSM W R S u B) => itrans R S u B W h hk hn)
  have HF := Lib.hid hF
  have Hu := Lib.hid hu
  obtain ⟨SB, hSB⟩ : ∃ SB, SB = (List.range B.length).all t := ⟨_, rfl⟩
  obtain ⟨SL, hSL⟩ : ∃ SL, SL = if SB = true then colsM (mapX B.length r) else [] := ⟨_, rfl⟩
  rw [← hSB, ← hSL]
  have HSB := Lib.hid hSB
  have HSL := Lib.hid hSL
  have Hlen := Lib.hid hr
  have HX := Lib.hid (fun (j : Nat) (hj : j < B.length) => mapX_get (r := r) hj)
  have HY := Lib.hid (fun (j : Nat) (hj : j < B.length) => colsM_get (L := B) hj)
  have HXl := Lib.hid (mapX_len B.length r)
  have HYl := Lib.hid (colsM_len B)
  have HT := Lib.hid (fun (D E : Nat) (c : Value) W (h : DSM W D E c (mapX B.length r)) (hr : ∀ x ∈ mapX B.length r, (mapX B.length r).length ≤ x.length) => itrans D E c (mapX B.length r) W h hr (by rw [mapX_len]; exact hn))
  have HM := Lib.hid (fun x (h : x ∈ mapX B.length r) => List.mem_map.1 h)
  generalize mapX B.length r = X at *
  generalize colsM B = Y at *
  clear hSB hSL hF hr hk
  obtain ⟨a', cap', rfl, hcap', -⟩ := hu
  go_enter Tryz.func94, Tryz.ntmps94
  go_wp2_with fail
  refine (H2.out _ Hu.out).mono ?_
  rintro e w2 ⟨c, rfl, hdc, hb2⟩
  have Hb2 := Lib.hid hb2
  have hs2 := Hb2.out.size
  obtain ⟨ca, cc, rfl, hcc, hcr⟩ := hdc
  have Hcr := Lib.hid hcr
  rw [HYl.out] at hcc ⊢
  clear hb2 hcr H2
  go_wp2_with fail
  go_loopg [15] B.length (fun n i wr => ∃ j : Nat, n = B.length - j ∧ j ≤ B.length ∧ i = .int .i64 j ∧ Hid (0 < B.length → ∃ g, ca = some ⟨g, 0, none⟩ ∧ w.heap.size ≤ g ∧ MRow wr w.heap.size wr.heap.size g (X.take j ++ Y.drop j)) ∧ Hid (∀ k, k < j → t k = true) ∧ Hid (Below w.heap.size w wr) ∧ w2.heap.size ≤ wr.heap.size)
  case atStart => exact ⟨0, rfl, Nat.zero_le _, rfl, Lib.hid (fun h0 => by obtain ⟨g, e, h1, h2, h3⟩ := Hcr.out (by rw [HYl.out]; exact h0); exact ⟨g, e, h1, by simpa using h3⟩), Lib.hid (fun k hk => absurd hk (Nat.not_lt_zero _)), Hb2, Nat.le_refl _⟩
  case round =>
    obtain ⟨j, rfl, hj, rfl, Hrow, Hall, Hb, hsz⟩ := hrel
    have hs := Hb.out.size
    by_cases hlt : j < B.length
    · obtain ⟨g, rfl, hg1, hrow⟩ := Hrow.out (by omega)
      have hXj := HX.out j hlt
      have hjX : j < X.length := by have := HXl.out; omega
      obtain ⟨p, pc, c0, hd1⟩ := hrow.cell (mix_at hjX (HY.out j hlt))
      have hgl := hrow.lt
      have Hc := Lib.hid (HF.out j hlt _ _ wr Hb.out hd1.dsl)
      have Hst := Lib.hid (mix_set (X := X) (Y := Y) (by rw [HXl.out, HYl.out]) hXj)
      have Hat := Lib.hid (fun (h : t j = true) k (hk : k < j + 1) => by
        rcases Nat.lt_succ_iff_lt_or_eq.1 hk with h' | rfl
        · exact Hall.out k h'
        · exact h)
      have Hno := Lib.hid (fun (h : t j = false) => (show ((List.range B.length).all t) = false from by
        rw [List.all_eq_false]; exact ⟨j, List.mem_range.2 hlt, by rw [h]; decide⟩))
      have Hrw := Lib.hid hrow
      have hmix := mix_at hjX (HY.out j hlt)
      have HmixL := Lib.hid (show j < (X.take j ++ Y.drop j).length by
        rcases Nat.lt_or_ge j (X.take j ++ Y.drop j).length with k | k
        · exact k
        · rw [List.getElem?_eq_none k] at hmix; cases hmix)
      clear hd1 hrow hXj hmix
      generalize t j = tj at *
      generalize r j = rj at *
      go_wp2_with fail
      refine (Hc.out).mono ?_
      rintro e w3 ⟨⟨q, rfl, hdq⟩, hb3⟩
      have Hb3 := Lib.hid (Hb.out.trans (hb3.mono hs))
      have hs3 := Hb3.out.size
      cases tj with
      | false =>
        obtain rfl : SB = false := HSB.out.trans (Hno.out rfl)
        obtain rfl : SL = [] := HSL.out
        clear hdq hb3
        go_wp2_with fail
        go_returns
        exact ⟨⟨_, rfl, DSM.nil⟩, Hb3.out⟩
      | true =>
        have hr2 := Hrw.out.block (hb3.block _ Hrw.out.lt) fun k _ _ hk => hb3.block k hk
        have f1 := fun o => hr2.free o
        obtain ⟨a9, c9, e0, -⟩ := hr2.cell (mix_at hjX (HY.out j hlt))
        have hgl3 := Nat.lt_of_lt_of_le hgl hb3.size
        have hr3 := Hrw.out.put (j := j) HmixL.out hdq.upto (by omega) hb3.size fun k hk => hb3.block k hk
        rw [Hst.out] at hr3
        have Hr3 := Lib.hid hr3
        have hsz3 := Nat.le_trans hsz hb3.size
        obtain ⟨a2, cap3, rfl, -, -⟩ := hdq
        clear hr3 hr2 hb3 Hrow Hrw Hc Hb c0
        go_wp2_with fail
        go_roundg (B.length - (j + 1))
        case measure => omega
        case rel =>
          refine ⟨j + 1, rfl, by omega, by go_num, Lib.hid (fun _ => ⟨g, rfl, hg1, by simpa using Hr3.out⟩), Lib.hid (Hat.out trivial), ?_, by simpa using hsz3⟩
          have := Hb3.out
          show Below _ _ _
          go_grown
    · obtain rfl : j = B.length := by omega
      have hall : ((List.range B.length).all t) = true := by
        rw [List.all_eq_true]; exact fun k hk => Hall.out k (List.mem_range.1 hk)
      obtain rfl : SB = true := HSB.out.trans hall
      obtain rfl : SL = colsM X := HSL.out
      have hrow := Hrow.out
      have hd : DSM wr w.heap.size wr.heap.size (.slice ca B.length cc) X := ⟨_, _, by rw [HXl.out], by rw [HXl.out]; exact hcc, fun h0 => by
        rw [HXl.out] at h0
        obtain ⟨g, e, h1, h2⟩ := hrow h0
        refine ⟨g, e, h1, h2.lt, ?_⟩
        rw [List.take_of_length_le (by rw [HXl.out]; exact Nat.le_refl _), List.drop_of_length_le (by rw [HYl.out]; exact Nat.le_refl _), List.append_nil] at h2
        exact h2⟩
      have Hcs := Lib.hid (HT.out _ _ _ wr hd (fun r hr => by
        obtain ⟨k, hk, rfl⟩ := HM.out r hr
        rw [HXl.out, Hlen.out k (List.mem_range.1 hk) (Hall.out k (List.mem_range.1 hk))]
        exact Nat.le_refl _))
      clear hrow hd Hrow
      go_wp2_with fail
      refine (Hcs.out).mono ?_
      rintro e w6 ⟨q, rfl, hdq, hb6⟩
      have Hdq := Lib.hid (hdq.mono (D := w.heap.size) (E := w6.heap.size) hs (Nat.le_refl _))
      have Hb6 := Lib.hid (Hb.out.trans (hb6.mono hs))
      clear hb6 hdq
      go_wp2_with fail
      go_returns
      exact ⟨⟨_, rfl, Hdq.out⟩, Hb6.out⟩
end Go.Proofs.YtmpafidkpangeaaGreat
