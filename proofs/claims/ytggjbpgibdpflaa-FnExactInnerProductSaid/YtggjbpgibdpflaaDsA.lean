/- AddStates of the model. -/
import Derived.Test.YtggjbpgibdpflaaDsC
import Derived.Test.YtggjbpgibdpflaaDwA
namespace Go.Proofs.Ytggjbpgibdpflaa
open Go.RowKit
theorem zip_at {a b : List Dw} {j : Nat} {x y : Dw} (hx : a[j]? = some x) (hy : b[j]? = some y) : (a.zip b)[j]? = some (x, y) := by
  rw [List.getElem?_zip_eq_some]; exact ⟨hx, hy⟩
theorem add_step {l : List (Dw × Dw)} {p : Dw × Dw} {j : Nat} (hp : l[j]? = some p) : flat ((l.map fun p => dAddV p.1 p.2).take j) ++ fl (dAddV p.1 p.2) = flat ((l.map fun p => dAddV p.1 p.2).take (j + 1)) := by
  rw [List.take_add_one, List.getElem?_map, hp, flat_app]
  simp [flat]
theorem ok_eb {x : Dw} (h : x.ok) : -9223372036854775808 ≤ x.e ∧ x.e ≤ 9223372036854775807 := by have := h.2; omega
attribute [local irreducible] World.cell?
set_option maxRecDepth 100000 in
set_option maxHeartbeats 1600000 in
theorem saddS_no0 (B C : Nat) (v u : Value) (a b : List Dw) (w : World) (hv : DSl w B v a) (hu : DSl w C u b) (hm : a.length ≤ 1048576) (hm' : b.length ≤ 1048576) (ha : stB a = false) :
    Calls Try.prog 54 #[v, u] w fun e w' => (∃ r, e = .returned (.tuple #[r, .bool false]) ∧ DSl w' w.heap.size r []) ∧ Below w.heap.size w w' := by
  have H1 := Lib.hid (svalidSt B v a w hv hm)
  have H2 := Lib.hid (fun W (h : DSl W C u b) => svalidSt C u b W h hm')
  have Hu := Lib.hid hu
  rw [ha] at H1
  skip
  obtain ⟨p, cap, rfl, hcap, -⟩ := hv
  obtain ⟨p', cap', rfl, hcap', -⟩ := hu
  go_enter Try.func54, Try.ntmps54
  go_wp2_with fail
  refine (H1.out).mono ?_
  rintro e w1 ⟨rfl, hb1⟩
  have Hb1 := Lib.hid hb1
  have Hu1 := Lib.hid (Hu.out.below hb1)
  clear hb1
  go_wp2_with fail
  go_returns
  exact ⟨⟨_, rfl, DSl.nil⟩, by have := Hb1.out; have := Hb1.out.size; go_grown⟩
set_option maxRecDepth 100000 in
set_option maxHeartbeats 1600000 in
theorem saddS_no1 (B C : Nat) (v u : Value) (a b : List Dw) (w : World) (hv : DSl w B v a) (hu : DSl w C u b) (hm : a.length ≤ 1048576) (hm' : b.length ≤ 1048576) (ha : stB a = true) (hb : stB b = false) :
    Calls Try.prog 54 #[v, u] w fun e w' => (∃ r, e = .returned (.tuple #[r, .bool false]) ∧ DSl w' w.heap.size r []) ∧ Below w.heap.size w w' := by
  have H1 := Lib.hid (svalidSt B v a w hv hm)
  have H2 := Lib.hid (fun W (h : DSl W C u b) => svalidSt C u b W h hm')
  have Hu := Lib.hid hu
  rw [ha] at H1
  rw [hb] at H2
  obtain ⟨p, cap, rfl, hcap, -⟩ := hv
  obtain ⟨p', cap', rfl, hcap', -⟩ := hu
  go_enter Try.func54, Try.ntmps54
  go_wp2_with fail
  refine (H1.out).mono ?_
  rintro e w1 ⟨rfl, hb1⟩
  have Hb1 := Lib.hid hb1
  have Hu1 := Lib.hid (Hu.out.below hb1)
  clear hb1
  go_wp2_with fail
  refine (H2.out _ Hu1.out).mono ?_
  rintro e w2 ⟨rfl, hb2⟩
  have Hb1 := Lib.hid (below_nx Hb1.out hb2)
  clear hb2
  go_wp2_with fail
  go_returns
  exact ⟨⟨_, rfl, DSl.nil⟩, by have := Hb1.out; have := Hb1.out.size; go_grown⟩
set_option maxRecDepth 100000 in
set_option maxHeartbeats 1600000 in
theorem saddS_no2 (B C : Nat) (v u : Value) (a b : List Dw) (w : World) (hv : DSl w B v a) (hu : DSl w C u b) (hm : a.length ≤ 1048576) (hm' : b.length ≤ 1048576) (ha : stB a = true) (hb : stB b = true) (hne : a.length ≠ b.length) :
    Calls Try.prog 54 #[v, u] w fun e w' => (∃ r, e = .returned (.tuple #[r, .bool false]) ∧ DSl w' w.heap.size r []) ∧ Below w.heap.size w w' := by
  have H1 := Lib.hid (svalidSt B v a w hv hm)
  have H2 := Lib.hid (fun W (h : DSl W C u b) => svalidSt C u b W h hm')
  have Hu := Lib.hid hu
  rw [ha] at H1
  rw [hb] at H2
  obtain ⟨p, cap, rfl, hcap, -⟩ := hv
  obtain ⟨p', cap', rfl, hcap', -⟩ := hu
  have hd : ((a.length : Int) == b.length) = false := by simp; omega
  have hd2 : ((a.length : Int) != b.length) = true := by simp; omega
  go_enter Try.func54, Try.ntmps54
  go_wp2_with fail
  refine (H1.out).mono ?_
  rintro e w1 ⟨rfl, hb1⟩
  have Hb1 := Lib.hid hb1
  have Hu1 := Lib.hid (Hu.out.below hb1)
  clear hb1
  go_wp2_with fail
  refine (H2.out _ Hu1.out).mono ?_
  rintro e w2 ⟨rfl, hb2⟩
  have Hb1 := Lib.hid (below_nx Hb1.out hb2)
  clear hb2
  go_wp2_with fail
  go_returns
  exact ⟨⟨_, rfl, DSl.nil⟩, by have := Hb1.out; have := Hb1.out.size; go_grown⟩
set_option maxRecDepth 100000 in
set_option maxHeartbeats 6400000 in
theorem saddS_yes (B C : Nat) (v u : Value) (a b : List Dw) (w : World) (hv : DSl w B v a) (hu : DSl w C u b) (ha : stB a = true) (hb : stB b = true) (hl : a.length = b.length) :
    Calls Try.prog 54 #[v, u] w fun e w' => (∃ r, e = .returned (.tuple #[r, .bool (addSB a b)]) ∧ DSl w' w.heap.size r (addSL a b)) ∧ Below w.heap.size w w' := by
  obtain ⟨i0, hi, hz0, hz1, hz2⟩ := info_parts infoDw
  have hlen := stB_len hb
  have H1 := Lib.hid (svalidSt B v a w hv (by omega))
  have H2 := Lib.hid (fun W (h : DSl W C u b) => svalidSt C u b W h (by omega))
  have Hu := Lib.hid hu
  have hSB : addSB a b = (a.zip b).all fun p => dAddB p.1 p.2 := by unfold addSB; rw [ha, hb, decide_eq_true hl]; rfl
  have hoka := (stB_iff.1 ha).1
  have hokb := (stB_iff.1 hb).1
  rw [ha] at H1
  rw [hb] at H2
  obtain ⟨p, cap, rfl, hcap, hr⟩ := hv
  obtain ⟨p', cap', rfl, hcap', hr'⟩ := hu
  rw [hl] at hr H1 hcap ⊢
  have Hr := Lib.hid hr
  have Hr' := Lib.hid hr'
  obtain ⟨SL, hSL⟩ : ∃ SL, SL = addSL a b := ⟨_, rfl⟩
  obtain ⟨SB, hSB'⟩ : ∃ SB, SB = addSB a b := ⟨_, rfl⟩
  rw [← hSL, ← hSB']
  have HSL := Lib.hid hSL
  have HSB := Lib.hid (hSB'.trans hSB)
  have HSB2 := Lib.hid hSB
  have Hoka := Lib.hid hoka
  have Hokb := Lib.hid hokb
  clear hSL hSB hSB' hr hr' ha hb hoka hokb
  have hd : ((b.length : Int) == b.length) = true := by simp
  have hd2 : ((b.length : Int) != b.length) = false := by simp
  go_enter Try.func54, Try.ntmps54
  go_wp2_with fail
  refine (H1.out).mono ?_
  rintro e w1 ⟨rfl, hb1⟩
  have Hb1 := Lib.hid hb1
  have Hu1 := Lib.hid (Hu.out.below hb1)
  clear hb1
  go_wp2_with fail
  refine (H2.out _ Hu1.out).mono ?_
  rintro e w2 ⟨rfl, hb2⟩
  have Hb2 := Lib.hid (below_nx Hb1.out hb2)
  have hs2 := Hb2.out.size
  clear hb2 Hb1
  go_wp2_with fail
  go_loopg [6, 7] b.length (fun k out i wr => ∃ j : Nat, k = b.length - j ∧ j ≤ b.length ∧ i = .int .i64 j ∧ Hid (wr.ownsRow w.heap.size 60 5 out j (flat (((a.zip b).map fun p => dAddV p.1 p.2).take j))) ∧ Hid (((a.zip b).take j).all (fun p => dAddB p.1 p.2) = true) ∧ Hid (Below w.heap.size w wr))
  case atStart =>
    refine ⟨0, rfl, Nat.zero_le _, rfl, ?_, Lib.hid rfl, Hb2.out.alloc hs2 _⟩
    exact World.ownsRow_lit w2 #[] 0 hs2 (Nat.zero_le _) rfl
  case round =>
    obtain ⟨j, rfl, hj, rfl, Hown, Hall, Hb⟩ := hrel
    by_cases hlt : j < b.length
    · obtain ⟨g, rfl, _, hrow⟩ := Hr.out (by omega)
      obtain ⟨g', rfl, _, hrow'⟩ := Hr'.out (by omega)
      obtain ⟨x, hx⟩ : ∃ x, a[j]? = some x := ⟨a[j], List.getElem?_eq_getElem (by omega)⟩
      obtain ⟨y, hy⟩ : ∃ y, b[j]? = some y := ⟨b[j], List.getElem?_eq_getElem hlt⟩
      have r1 := hrow.below Hb.out hrow.lt
      have r2 := hrow'.below Hb.out hrow'.lt
      obtain ⟨c0, c1, c2, c3, c4⟩ := r1.cells hx
      obtain ⟨d0, d1, d2, d3, d4⟩ := r2.cells hy
      have hgl := r1.lt
      have hgl' := r2.lt
      have hex := ok_eb (Hoka.out x (List.mem_of_getElem? hx))
      have hey := ok_eb (Hokb.out y (List.mem_of_getElem? hy))
      have hp := zip_at hx hy
      have Hm := Lib.hid (fun w => saddD_any x y w hex.1 hex.2 hey.1 hey.2)
      have Hstep := Lib.hid (add_step hp)
      have Hat := Lib.hid (all_take (p := fun p : Dw × Dw => dAddB p.1 p.2) hp Hall.out)
      have Hno := Lib.hid (fun h => all_no (p := fun p : Dw × Dw => dAddB p.1 p.2) hp h)
      simp only [] at Hstep Hat Hno
      clear hx hy hp hrow hrow' r1 r2 hex hey
      generalize dAddV x y = z at *
      generalize dAddB x y = t at *
      go_upto_region 7 with fail
      go_cut [8, 9] from 27 to 51 (fun s8 s9 wx => ∃ k, s8 = .pointer (some ⟨k, 0, none⟩) ∧ s9 = .bool t ∧ wx.cell? ⟨k, 0, none⟩ = some (.int .i64 z.n.a) ∧ wx.cell? ⟨k, 1, none⟩ = some (.int .i64 z.n.b) ∧ wx.cell? ⟨k, 2, none⟩ = some (.int .i64 z.n.c) ∧ wx.cell? ⟨k, 3, none⟩ = some (.int .i64 z.n.d) ∧ wx.cell? ⟨k, 4, none⟩ = some (.int .i64 z.e) ∧ Hid (Below wr.heap.size wr wx))
      case first =>
        have hS : E2 wr g g' (j * 5) x y wr := ⟨c0, c1, c2, c3, c4, d0, d1, d2, d3, d4, hgl, hgl', Below.refl _ _⟩
        have hq : wr.heap.size ≤ wr.heap.size := Nat.le_refl _
        have hn : g < wr.heap.size ∧ g' < wr.heap.size := ⟨hgl, hgl'⟩
        have hw : wr.heap.size ≤ wr.heap.size := Nat.le_refl _
        go_region_held3 (fun w' => w'.cell? ⟨g, j * 5, none⟩ = some (.int .i64 x.n.a) ∧ w'.cell? ⟨g, j * 5 + 1, none⟩ = some (.int .i64 x.n.b) ∧ w'.cell? ⟨g, j * 5 + 2, none⟩ = some (.int .i64 x.n.c) ∧ w'.cell? ⟨g, j * 5 + 3, none⟩ = some (.int .i64 x.n.d) ∧ w'.cell? ⟨g, j * 5 + 4, none⟩ = some (.int .i64 x.e) ∧ w'.cell? ⟨g', j * 5, none⟩ = some (.int .i64 y.n.a) ∧ w'.cell? ⟨g', j * 5 + 1, none⟩ = some (.int .i64 y.n.b) ∧ w'.cell? ⟨g', j * 5 + 2, none⟩ = some (.int .i64 y.n.c) ∧ w'.cell? ⟨g', j * 5 + 3, none⟩ = some (.int .i64 y.n.d) ∧ w'.cell? ⟨g', j * 5 + 4, none⟩ = some (.int .i64 y.e) ∧ g < w'.heap.size ∧ g' < w'.heap.size ∧ Below wr.heap.size wr w') (first | (show E2 wr g g' (j * 5) x y _; (with_reducible exact hS.drew)) | (show E2 wr g g' (j * 5) x y _; (with_reducible exact (hS.alloc _).drew)) | (show E2 wr g g' (j * 5) x y _; (with_reducible refine E2.below ?_ hbR); first | assumption | exact ⟨by assumption, by assumption, by assumption, by assumption, by assumption, by assumption, by assumption, by assumption, by assumption, by assumption, by assumption, by assumption, by assumption⟩) | (show E2 wr g g' (j * 5) x y _; (with_reducible refine E2.alloc ?_ _); first | assumption | exact ⟨by assumption, by assumption, by assumption, by assumption, by assumption, by assumption, by assumption, by assumption, by assumption, by assumption, by assumption, by assumption, by assumption⟩) | (show E2 wr g g' (j * 5) x y _; (with_reducible refine E2.realloc (p := .cells #[.int .i64 0, .int .i64 0, .int .i64 0, .int .i64 0, .int .i64 0] 60) ?_ hq hn hw); first | assumption | exact ⟨by assumption, by assumption, by assumption, by assumption, by assumption, by assumption, by assumption, by assumption, by assumption, by assumption, by assumption, by assumption, by assumption⟩) | (show E2 wr g g' (j * 5) x y _; (with_reducible refine E2.set5 (lim := wr.heap.size) ?_ ?_ hn hw); (first | assumption | exact ⟨by assumption, by assumption, by assumption, by assumption, by assumption, by assumption, by assumption, by assumption, by assumption, by assumption, by assumption, by assumption, by assumption⟩); (first | assumption | exact Nat.le_refl _)))
          (first | (go_at_call 93; (first | (with_reducible refine (Hm.out _).mono ?_)); rintro e wR ⟨rfl, hbR⟩; (first | (have hq := Nat.le_trans hq hbR.size) | (have hq : wr.heap.size ≤ wR.heap.size := by have := hbR.size; simpa using this) | (have hq : wr.heap.size ≤ wR.heap.size := by have := hbR.size; simp at this; exact Nat.le_of_succ_le this) | (have hq := Nat.le_trans hq (Nat.le_of_succ_le (by have := hbR.size; simpa using this)))); obtain ⟨hcR, hfR, hzR⟩ := bgrow hbR; (first | (have zg := hzR _ zg) | (have zg := hzR _ (lt_alloc _ _); try simp at zg) | skip)))
        all_goals go_wp2_with fail
        all_goals go_meet
        all_goals refine ⟨_, rfl, rfl, ?_, ?_, ?_, ?_, ?_, E2.low (g := g) (g' := g') (o := j * 5) (x := x) (y := y) (by assumption)⟩
        all_goals (simp [*, go_sem]; done)
      case rest =>
      obtain ⟨k, rfl, rfl, k0, k1, k2, k3, k4, Hbx⟩ := hcut
      have Hown2 := Lib.hid (row_below Hown.out Hbx.out)
      have Hb3 := Lib.hid (below_nx Hb.out Hbx.out)
      have hs3 := Hb3.out.size
      have hkl := World.block_lt_of_cell? _ _ k0
      clear c0 c1 c2 c3 c4 d0 d1 d2 d3 d4 Hown Hm
      cases t with
      | false =>
        have hS := HSB.out.trans (Hno.out rfl)
        subst hS
        obtain rfl : SL = [] := HSL.out.trans (if_neg (by rw [HSB2.out, Hno.out rfl]; decide))
        go_wp2_with fail
        go_returns
        exact ⟨⟨_, rfl, DSl.nil⟩, by have := Hb3.out; have := Hb3.out.size; go_grown⟩
      | true =>
        go_wp2_with (first
          | (at_builtin; refine wpList_append_own _ rfl _ _ 31 rfl w.heap.size 60 i0 (.agg #[.int .i64 0, .int .i64 0, .int .i64 0, .int .i64 0, .int .i64 0]) 5 40 Try.underlying31 hi hz0 hz1 hz2 rfl (by decide) _ _ _ rfl (Hown2.out.alloc _) ⟨wc.heap.size, 0, none⟩ 1 1 (fl z) rfl rfl (fl_new _ _ _) (fl_plain _) ?d3 ?d4 ?d5 ?_))
        case d3 => unfold maxLen; omega
        case d4 => omega
        case d5 => first | omega | (simp [fl]; omega) | (simp; omega)
        intro v' w4 hown' hgrow _
        have HB4 := Lib.hid ((Hb3.out.alloc (by omega) (.cells #[.int .i64 z.n.a, .int .i64 z.n.b, .int .i64 z.n.c, .int .i64 z.n.d, .int .i64 z.e] 60)).grown hgrow (by simp; omega) (fun q hq => by have := Hown2.out.lt q hq; omega))
        rw [Hstep.out] at hown'
        have Hown4 := Lib.hid hown'
        clear hown' hgrow
        go_wp2_with fail
        go_roundg (b.length - (j + 1))
        case measure => omega
        case rel => exact ⟨j + 1, rfl, by omega, by go_num, Hown4.out, Lib.hid Hat.out, HB4⟩
    · obtain rfl : j = b.length := by omega
      have hzl : (a.zip b).length = b.length := by rw [List.length_zip]; omega
      have hall : (a.zip b).all (fun p => dAddB p.1 p.2) = true := by have := Hall.out; rwa [List.take_of_length_le (by omega)] at this
      have hS := HSB.out.trans hall
      have hL : ((a.zip b).map fun p => dAddV p.1 p.2) = addSL a b := by
        unfold addSL
        rw [if_pos (HSB2.out.trans hall)]
      have hown := Hown.out
      rw [show b.length = (addSL a b).length by rw [← hL, List.length_map, hzl], hL, List.take_length] at hown
      have Hout := Lib.hid (DSl.of_own hown)
      obtain rfl := HSL.out
      subst hS
      clear hown hL hall
      go_wp2_with fail
      go_returns
      exact ⟨⟨_, rfl, Hout.out⟩, Hb.out⟩
theorem saddSt (B C : Nat) (v u : Value) (a b : List Dw) (w : World) (hv : DSl w B v a) (hu : DSl w C u b) (hm : a.length ≤ 1048576) (hm' : b.length ≤ 1048576) :
    Calls Try.prog 54 #[v, u] w fun e w' => (∃ r, e = .returned (.tuple #[r, .bool (addSB a b)]) ∧ DSl w' w.heap.size r (addSL a b)) ∧ Below w.heap.size w w' := by
  have hno : addSB a b = false → addSL a b = [] := fun h => if_neg (by rw [h]; decide)
  cases ha : stB a with
  | false =>
    have h : addSB a b = false := by unfold addSB; rw [ha]; rfl
    rw [h, hno h]; exact saddS_no0 B C v u a b w hv hu hm hm' ha
  | true =>
    cases hb : stB b with
    | false =>
      have h : addSB a b = false := by unfold addSB; rw [ha, hb]; rfl
      rw [h, hno h]; exact saddS_no1 B C v u a b w hv hu hm hm' ha hb
    | true =>
      by_cases hl : a.length = b.length
      · exact saddS_yes B C v u a b w hv hu ha hb hl
      · have h : addSB a b = false := by unfold addSB; rw [ha, hb, decide_eq_false hl]; rfl
        rw [h, hno h]; exact saddS_no2 B C v u a b w hv hu hm hm' ha hb hl
end Go.Proofs.Ytggjbpgibdpflaa
