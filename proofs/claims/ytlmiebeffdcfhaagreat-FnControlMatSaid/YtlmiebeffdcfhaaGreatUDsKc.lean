/- The program's combine, for its three operations; a conjugate times a number. -/
import Derived.Test.YtlmiebeffdcfhaaGreatUBaseB12
import Derived.Test.YtlmiebeffdcfhaaGreatUBaseC06
namespace Go.Proofs.YtlmiebeffdcfhaaGreat
open Go.RowKit
/-- Two rows combined, element by element. -/
def cmbB (T : Dw → Dw → Bool) (a b : List Dw) : Bool := (a.zip b).all fun p => T p.1 p.2
def cmbL (V : Dw → Dw → Dw) (T : Dw → Dw → Bool) (a b : List Dw) : List Dw := if cmbB T a b then (a.zip b).map fun p => V p.1 p.2 else []
theorem cmb_step {V : Dw → Dw → Dw} {l : List (Dw × Dw)} {p : Dw × Dw} {j : Nat} (hp : l[j]? = some p) : flat ((l.map fun p => V p.1 p.2).take j) ++ fl (V p.1 p.2) = flat ((l.map fun p => V p.1 p.2).take (j + 1)) := by
  rw [List.take_add_one, List.getElem?_map, hp, flat_app]
  simp [flat]
attribute [local irreducible] World.cell?
set_option maxRecDepth 100000 in
set_option maxHeartbeats 6400000 in
theorem icmbMul (B C : Nat) (v u : Value) (a b : List Dw) (w : World) (hv : DSl w B v a) (hu : DSl w C u b) (ha : Eb a) (hb : Eb b) (hl : a.length = b.length) (hm : b.length ≤ 16) :
    Calls Tryz.prog 122 #[v, u, .func (.func 123) #[] #[]] w fun e w' => (∃ r, e = .returned (.tuple #[r, .bool (cmbB dMulB a b)]) ∧ DSl w' w.heap.size r (cmbL dMulV dMulB a b)) ∧ Below w.heap.size w w' := by
  obtain ⟨i0, hi, hz0, hz1, hz2⟩ := info_parts infoDw
  obtain ⟨p, cap, rfl, hcap, hr⟩ := hv
  obtain ⟨p', cap', rfl, hcap', hr'⟩ := hu
  rw [hl] at hr hcap ⊢
  have Hr := Lib.hid hr
  have Hr' := Lib.hid hr'
  obtain ⟨SL, hSL⟩ : ∃ SL, SL = cmbL dMulV dMulB a b := ⟨_, rfl⟩
  obtain ⟨SB, hSB⟩ : ∃ SB, SB = cmbB dMulB a b := ⟨_, rfl⟩
  rw [← hSL, ← hSB]
  have HSL := Lib.hid hSL
  have HSB := Lib.hid hSB
  have Ha := Lib.hid ha
  have Hb0 := Lib.hid hb
  clear hSL hSB hr hr' ha hb
  go_enter Tryz.func122, Tryz.ntmps122
  go_wp2_with (first | (at_make; refine wpList_make_own _ rfl _ _ 59 rfl w.heap.size 70 i0 (.agg #[.int .i64 0, .int .i64 0, .int .i64 0, .int .i64 0, .int .i64 0]) 5 Tryz.underlying59 hi hz0 hz1 .i64 .i64 b.length b.length rfl rfl rfl (by rw [hz2]; omega) (by unfold maxLen; omega) (Nat.le_refl _) ?_))
  intro w1 hown hgrow
  have Hb1 := Lib.hid (show Below w.heap.size w w1 from (Below.refl _ _).grown hgrow (Nat.le_refl _) (fun k hk => by cases hk))
  have Hown1 := Lib.hid hown
  clear hown hgrow
  go_wp2_with fail
  go_loopg [8, 17] b.length (fun k out i wr => ∃ j : Nat, k = b.length - j ∧ j ≤ b.length ∧ i = .int .i64 j ∧ Hid (wr.ownsRow w.heap.size 70 5 out j (flat (((a.zip b).map fun p => dMulV p.1 p.2).take j))) ∧ Hid (((a.zip b).take j).all (fun p => dMulB p.1 p.2) = true) ∧ Hid (Below w.heap.size w wr))
  case atStart => exact ⟨0, rfl, Nat.zero_le _, rfl, Lib.hid (by simpa [flat] using Hown1.out), Lib.hid rfl, Hb1⟩
  case round =>
    obtain ⟨j, rfl, hj, rfl, Hown, Hall, Hb⟩ := hrel
    by_cases hlt : j < b.length
    · obtain ⟨g, rfl, _, hrow⟩ := Hr.out (by omega)
      obtain ⟨g', rfl, _, hrow'⟩ := Hr'.out (by omega)
      obtain ⟨x, hx⟩ : ∃ x, a[j]? = some x := ⟨a[j], List.getElem?_eq_getElem (by omega)⟩
      obtain ⟨y, hy⟩ : ∃ y, b[j]? = some y := ⟨b[j], List.getElem?_eq_getElem hlt⟩
      have r1 := hrow.below Hb.out hrow.lt
      have r2 := hrow'.below Hb.out hrow'.lt
      obtain ⟨c0, c1, c2, c3, c4⟩ := r1.cells hx
      obtain ⟨d0, d1, d2, d3, d4⟩ := r2.cells hy
      have hgl := r1.lt
      have hgl' := r2.lt
      have hex := Ha.out x (List.mem_of_getElem? hx)
      have hey := Hb0.out y (List.mem_of_getElem? hy)
      have hp := zip_at hx hy
      have Hm := Lib.hid (fun w => show Calls Tryz.prog 123 #[(.agg #[.int .i64 x.n.a, .int .i64 x.n.b, .int .i64 x.n.c, .int .i64 x.n.d, .int .i64 x.e]), (.agg #[.int .i64 y.n.a, .int .i64 y.n.b, .int .i64 y.n.c, .int .i64 y.n.d, .int .i64 y.e])] w fun e w' => e = .returned (.tuple #[(.agg #[.int .i64 (dMulV x y).n.a, .int .i64 (dMulV x y).n.b, .int .i64 (dMulV x y).n.c, .int .i64 (dMulV x y).n.d, .int .i64 (dMulV x y).e]), .bool (dMulB x y)]) ∧ Below w.heap.size w w' from imulD_any x y w hex.1 hex.2 hey.1 hey.2)
      have Hstep := Lib.hid (cmb_step (V := dMulV) hp)
      have Hat := Lib.hid (all_take (p := fun p : Dw × Dw => dMulB p.1 p.2) hp Hall.out)
      have Hno := Lib.hid (fun h => all_no (p := fun p : Dw × Dw => dMulB p.1 p.2) hp h)
      simp only [] at Hstep Hat Hno
      clear hx hy hp hrow hrow' r1 r2 hex hey
      generalize dMulV x y = z at *
      generalize dMulB x y = t at *
      go_upto_region 5 with fail
      go_cut [10, 11] from 18 to 39 (fun s8 s9 wx => ∃ k, s8 = .pointer (some ⟨k, 0, none⟩) ∧ s9 = .bool t ∧ wx.cell? ⟨k, 0, none⟩ = some (.int .i64 z.n.a) ∧ wx.cell? ⟨k, 1, none⟩ = some (.int .i64 z.n.b) ∧ wx.cell? ⟨k, 2, none⟩ = some (.int .i64 z.n.c) ∧ wx.cell? ⟨k, 3, none⟩ = some (.int .i64 z.n.d) ∧ wx.cell? ⟨k, 4, none⟩ = some (.int .i64 z.e) ∧ Hid (Below wr.heap.size wr wx))
      case first =>
        have hS : E2 wr g g' (j * 5) x y wr := ⟨c0, c1, c2, c3, c4, d0, d1, d2, d3, d4, hgl, hgl', Below.refl _ _⟩
        have hq : wr.heap.size ≤ wr.heap.size := Nat.le_refl _
        have hn : g < wr.heap.size ∧ g' < wr.heap.size := ⟨hgl, hgl'⟩
        have hw : wr.heap.size ≤ wr.heap.size := Nat.le_refl _
        go_region_held3 (fun w' => w'.cell? ⟨g, j * 5, none⟩ = some (.int .i64 x.n.a) ∧ w'.cell? ⟨g, j * 5 + 1, none⟩ = some (.int .i64 x.n.b) ∧ w'.cell? ⟨g, j * 5 + 2, none⟩ = some (.int .i64 x.n.c) ∧ w'.cell? ⟨g, j * 5 + 3, none⟩ = some (.int .i64 x.n.d) ∧ w'.cell? ⟨g, j * 5 + 4, none⟩ = some (.int .i64 x.e) ∧ w'.cell? ⟨g', j * 5, none⟩ = some (.int .i64 y.n.a) ∧ w'.cell? ⟨g', j * 5 + 1, none⟩ = some (.int .i64 y.n.b) ∧ w'.cell? ⟨g', j * 5 + 2, none⟩ = some (.int .i64 y.n.c) ∧ w'.cell? ⟨g', j * 5 + 3, none⟩ = some (.int .i64 y.n.d) ∧ w'.cell? ⟨g', j * 5 + 4, none⟩ = some (.int .i64 y.e) ∧ g < w'.heap.size ∧ g' < w'.heap.size ∧ Below wr.heap.size wr w') (first | (show E2 wr g g' (j * 5) x y _; (with_reducible exact hS.drew)) | (show E2 wr g g' (j * 5) x y _; (with_reducible exact (hS.alloc _).drew)) | (show E2 wr g g' (j * 5) x y _; (with_reducible refine E2.below ?_ hbR); first | assumption | exact ⟨by assumption, by assumption, by assumption, by assumption, by assumption, by assumption, by assumption, by assumption, by assumption, by assumption, by assumption, by assumption, by assumption⟩) | (show E2 wr g g' (j * 5) x y _; (with_reducible refine E2.alloc ?_ _); first | assumption | exact ⟨by assumption, by assumption, by assumption, by assumption, by assumption, by assumption, by assumption, by assumption, by assumption, by assumption, by assumption, by assumption, by assumption⟩) | (show E2 wr g g' (j * 5) x y _; (with_reducible refine E2.realloc (p := .cells #[.int .i64 0, .int .i64 0, .int .i64 0, .int .i64 0, .int .i64 0] 70) ?_ hq hn hw); first | assumption | exact ⟨by assumption, by assumption, by assumption, by assumption, by assumption, by assumption, by assumption, by assumption, by assumption, by assumption, by assumption, by assumption, by assumption⟩) | (show E2 wr g g' (j * 5) x y _; (with_reducible refine E2.set5 (lim := wr.heap.size) ?_ ?_ hn hw); (first | assumption | exact ⟨by assumption, by assumption, by assumption, by assumption, by assumption, by assumption, by assumption, by assumption, by assumption, by assumption, by assumption, by assumption, by assumption⟩); (first | assumption | exact Nat.le_refl _)))
          (first | (go_at_call 123; (first | (with_reducible refine (Hm.out _).mono ?_)); rintro e wR ⟨rfl, hbR⟩; (first | (have hq := Nat.le_trans hq hbR.size) | (have hq : wr.heap.size ≤ wR.heap.size := by have := hbR.size; simpa using this) | (have hq : wr.heap.size ≤ wR.heap.size := by have := hbR.size; simp at this; exact Nat.le_of_succ_le this) | (have hq := Nat.le_trans hq (Nat.le_of_succ_le (by have := hbR.size; simpa using this)))); obtain ⟨hcR, hfR, hzR⟩ := bgrow hbR; (first | (have zg := hzR _ zg) | (have zg := hzR _ (lt_alloc _ _); try simp at zg) | skip)))
        all_goals go_wp2_with fail
        all_goals go_meet
        all_goals refine ⟨_, rfl, rfl, ?_, ?_, ?_, ?_, ?_, E2.low (g := g) (g' := g') (o := j * 5) (x := x) (y := y) (by assumption)⟩
        all_goals (simp [*, go_sem]; done)
      case rest =>
      obtain ⟨k, rfl, rfl, k0, k1, k2, k3, k4, Hbx⟩ := hcut
      have Hown2 := Lib.hid (row_below Hown.out Hbx.out)
      have Hb3 := Lib.hid (below_nx Hb.out Hbx.out)
      have hs3 := Hb3.out.size
      have hkl := World.block_lt_of_cell? _ _ k0
      clear c0 c1 c2 c3 c4 d0 d1 d2 d3 d4 Hown Hm
      cases t with
      | false =>
        have hS := HSB.out.trans (Hno.out rfl)
        subst hS
        obtain rfl : SL = [] := HSL.out.trans (if_neg (by rw [← HSB.out]; decide))
        go_wp2_with fail
        go_returns
        exact ⟨⟨_, rfl, DSl.nil⟩, by have := Hb3.out; have := Hb3.out.size; go_grown⟩
      | true =>
        go_wp2_with (first
          | (at_builtin; refine wpList_append_own _ rfl _ _ 59 rfl w.heap.size 70 i0 (.agg #[.int .i64 0, .int .i64 0, .int .i64 0, .int .i64 0, .int .i64 0]) 5 40 Tryz.underlying59 hi hz0 hz1 hz2 rfl (by decide) _ _ _ rfl (Hown2.out.alloc _) ⟨wc.heap.size, 0, none⟩ 1 1 (fl z) rfl rfl (fl_new _ _ _) (fl_plain _) ?d3 ?d4 ?d5 ?_))
        case d3 => unfold maxLen; omega
        case d4 => omega
        case d5 => first | omega | (simp [fl]; omega) | (simp; omega)
        intro v' w4 hown' hgrow _
        have HB4 := Lib.hid ((Hb3.out.alloc (by omega) (.cells #[.int .i64 z.n.a, .int .i64 z.n.b, .int .i64 z.n.c, .int .i64 z.n.d, .int .i64 z.e] 70)).grown hgrow (by simp; omega) (fun q hq => by have := Hown2.out.lt q hq; omega))
        rw [Hstep.out] at hown'
        have Hown4 := Lib.hid hown'
        clear hown' hgrow
        go_wp2_with fail
        go_roundg (b.length - (j + 1))
        case measure => omega
        case rel => exact ⟨j + 1, rfl, by omega, by go_num, Hown4.out, Lib.hid Hat.out, HB4⟩
    · obtain rfl : j = b.length := by omega
      have hzl : (a.zip b).length = b.length := by rw [List.length_zip]; omega
      have hall : cmbB dMulB a b = true := by have := Hall.out; rwa [List.take_of_length_le (by omega)] at this
      have hS := HSB.out.trans hall
      have hL : ((a.zip b).map fun p => dMulV p.1 p.2) = cmbL dMulV dMulB a b := by
        unfold cmbL
        rw [if_pos hall]
      have hown := Hown.out
      rw [show b.length = (cmbL dMulV dMulB a b).length by rw [← hL, List.length_map, hzl], hL, List.take_length] at hown
      have Hout := Lib.hid (DSl.of_own hown)
      obtain rfl := HSL.out
      subst hS
      clear hown hL hall
      go_wp2_with fail
      go_returns
      exact ⟨⟨_, rfl, Hout.out⟩, Hb.out⟩
end Go.Proofs.YtlmiebeffdcfhaaGreat
