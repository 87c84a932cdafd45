/- The model's GlobalPhase. -/
import Derived.Test.YtadimihfbpkilaaBaseB15
import Derived.Test.YtadimihfbpkilaaDsC
import Derived.Test.YtadimihfbpkilaaPhS
namespace Go.Proofs.Ytadimihfbpkilaa
open Go.RowKit
def gpP (i : Nat) (p : List Dw × List Dw) : Bool := scaleB p.2 (dPh (i : Int)) && decide (scaleL p.2 (dPh (i : Int)) = p.1)
theorem gpAt_eq (A B : List (List Dw)) (i : Nat) : gpAt A B i = (A.zip B).all (gpP i) := rfl
theorem find_none {p : Nat → Bool} {n : Nat} (h : ∀ j, j < n → p j = false) : (List.range n).find? p = none := by
  rw [List.find?_eq_none]
  intro x hx
  rw [h x (List.mem_range.1 hx)]
  decide
theorem find_hit {p : Nat → Bool} {n k : Nat} (hk : k < n) (h : ∀ j, j < k → p j = false) (hp : p k = true) : (List.range n).find? p = some k := by
  rw [List.find?_range_eq_some]
  exact ⟨hp, List.mem_range.2 hk, fun j hj => by rw [h j hj]; rfl⟩
theorem zipM_at {a b : List (List Dw)} {j : Nat} {x y : List Dw} (hx : a[j]? = some x) (hy : b[j]? = some y) : (a.zip b)[j]? = some (x, y) := by
  rw [List.getElem?_zip_eq_some]; exact ⟨hx, hy⟩
theorem all_no2 {α : Type} {p : α → Bool} {l : List α} {j : Nat} (h : (l.take j).all p = false) : l.all p = false := by
  cases hl : l.all p with
  | false => rfl
  | true =>
    rw [List.all_eq_true] at hl
    rw [List.all_eq_false] at h
    obtain ⟨x, hx, hp⟩ := h
    exact absurd (hl x (List.mem_of_mem_take hx)) hp
/-- A row's slice in its place. -/
def SP1 (w : World) (g j D : Nat) (x : Value) (r : List Dw) (w' : World) : Prop := w'.cell? ⟨g, j, none⟩ = some x ∧ g < w'.heap.size ∧ Hid (DSl w' D x r) ∧ Below w.heap.size w w'
theorem SP1.drew {w w' : World} {g j D : Nat} {x : Value} {r : List Dw} (h : SP1 w g j D x r w') : SP1 w g j D x r w'.drew :=
  let ⟨a, z, d, l⟩ := h; ⟨a, z, Lib.hid (d.out.block fun _ _ _ => rfl), l.drew⟩
theorem SP1.below {w w1 w2 : World} {g j D : Nat} {x : Value} {r : List Dw} (h : SP1 w g j D x r w1) (hb : Below w1.heap.size w1 w2) : SP1 w g j D x r w2 :=
  let ⟨a, z, d, l⟩ := h
  ⟨cell_below a hb z, Nat.lt_of_lt_of_le z hb.size, Lib.hid (d.out.below hb), below_up l hb l.size⟩
theorem SP1.dsl {w w' : World} {g j D : Nat} {x : Value} {r : List Dw} (h : SP1 w g j D x r w') : Hid (DSl w' D x r) := let ⟨_, _, d, _⟩ := h; d
theorem SP1.low {w w' : World} {g j D : Nat} {x : Value} {r : List Dw} (h : SP1 w g j D x r w') : Below w.heap.size w w' := let ⟨_, _, _, l⟩ := h; l
attribute [local irreducible] World.cell?
set_option maxRecDepth 100000 in
set_option maxHeartbeats 6400000 in
theorem sgp_yes (B C D E : Nat) (v u : Value) (M N : List (List Dw)) (w : World) (hv : DSM w B C v M) (hu : DSM w D E u N) (hM : mtB M = true) (hN : mtB N = true) (hl : M.length = N.length) :
    Calls Try.prog 36 #[v, u] w fun e w' => e = .returned (.tuple #[.int .i64 (gpV M N), .bool (gpB M N)]) ∧ Below w.heap.size w w' := by
  have hlen := mtB_len hN
  have H1 := Lib.hid (svalidMt B C v M w hv (by omega) (by have := mtB_amps hM; omega))
  have H2 := Lib.hid (fun W (h : DSM W D E u N) => svalidMt D E u N W h (by omega) (by have := mtB_amps hN; omega))
  rw [hM] at H1
  rw [hN] at H2
  have Hu := Lib.hid hu
  have hF : gpF M N = (List.range 8).find? (gpAt M N) := by unfold gpF; rw [hM, hN, decide_eq_true hl]; rfl
  have HV := Lib.hid (show gpV M N = (((List.range 8).find? (gpAt M N)).getD 0 : Nat) by unfold gpV; rw [hF])
  have HT := Lib.hid (show gpB M N = ((List.range 8).find? (gpAt M N)).isSome by unfold gpB; rw [hF])
  have HrM := Lib.hid (fun (j : Nat) (r : List Dw) (h : M[j]? = some r) => (mtB_row hM h).1)
  have HrN := Lib.hid (fun (j : Nat) (r : List Dw) (h : N[j]? = some r) => (mtB_row hN h).1)
  generalize gpV M N = V at *
  generalize gpB M N = T at *
  clear hF hM hN
  obtain ⟨a, cap, rfl, hcap, hr⟩ := hv
  obtain ⟨a', cap', rfl, hcap', hr'⟩ := hu
  rw [hl] at H1 hcap hr ⊢
  have Hl := Lib.hid hl
  have Hr := Lib.hid hr
  have Hr' := Lib.hid hr'
  clear hr hr' hl
  have hd2 : ((N.length : Int) != N.length) = false := by simp
  go_enter Try.func36, Try.ntmps36
  go_wp2_with fail
  refine (H1.out).mono ?_
  rintro e w1 ⟨rfl, hb1⟩
  have Hb1 := Lib.hid hb1
  have Hu1 := Lib.hid (Hu.out.below hb1)
  clear hb1
  go_wp2_with fail
  refine (H2.out _ Hu1.out).mono ?_
  rintro e w2 ⟨rfl, hb2⟩
  have Hb2 := Lib.hid (Hb1.out.trans (hb2.mono Hb1.out.size))
  clear hb2 Hb1 Hu1 H1 H2
  go_wp2_with fail
  go_loopg [6] 8 (fun n i wr => ∃ k : Nat, n = 8 - k ∧ k ≤ 8 ∧ i = .int .i64 k ∧ Hid (∀ j, j < k → gpAt M N j = false) ∧ Hid (Below w.heap.size w wr))
  case atStart => exact ⟨0, rfl, Nat.zero_le _, rfl, Lib.hid (fun j h => absurd h (by omega)), Hb2⟩
  case round =>
    obtain ⟨k, rfl, hk, rfl, Hno, Hb⟩ := hrel
    by_cases hlt : k < 8
    · have hk8 : (k : Int) < 8 := by omega
      have Hp := Lib.hid (fun w => sphase (k : Int) w)
      have hee := ok_eb (dPh_ok (k : Int))
      go_wp2_with fail
      go_loopg [7, 8] N.length (fun n s i ws => ∃ (j : Nat) (t : Bool), n = N.length - j ∧ j ≤ N.length ∧ i = .int .i64 j ∧ s = .bool t ∧ Hid (((M.zip N).take j).all (gpP k) = t) ∧ Hid (Below w.heap.size w ws))
      case atStart => exact ⟨0, true, rfl, Nat.zero_le _, rfl, rfl, Lib.hid rfl, Hb⟩
      case round =>
        obtain ⟨j, t, rfl, hj, rfl, rfl, Hall, Hbs⟩ := hrel
        by_cases hjl : j < N.length
        · cases t with
          | false =>
            have Hf := Lib.hid (all_no2 (p := gpP k) Hall.out)
            go_wp2_with fail
            go_roundg (8 - (k + 1))
            case measure => omega
            case rel => exact ⟨k + 1, rfl, by omega, by go_num, Lib.hid (fun j hj => by
              by_cases e : j = k
              · subst e; exact Hf.out
              · exact Hno.out j (by omega)), Hbs⟩
          | true =>
            obtain ⟨g, rfl, _, _, hrow⟩ := Hr.out (by have := Hl.out; omega)
            obtain ⟨g', rfl, _, _, hrow'⟩ := Hr'.out (by omega)
            obtain ⟨x, hx⟩ : ∃ r, M[j]? = some r := ⟨M[j]'(by have := Hl.out; omega), List.getElem?_eq_getElem _⟩
            obtain ⟨y, hy⟩ : ∃ r, N[j]? = some r := ⟨N[j], List.getElem?_eq_getElem hjl⟩
            have r1 := hrow.block (Hbs.out.block _ hrow.lt) fun k _ _ hk => Hbs.out.block k hk
            have r2 := hrow'.block (Hbs.out.block _ hrow'.lt) fun k _ _ hk => Hbs.out.block k hk
            obtain ⟨p, pc, c0, hd1⟩ := r1.cell hx
            obtain ⟨q, qc, c1, hd2⟩ := r2.cell hy
            have hgl := r1.lt
            have hgl' := r2.lt
            have hxl := (HrM.out j x hx).trans Hl.out
            have hyl := HrN.out j y hy
            have Hd1 := Lib.hid hd1.dsl
            have Hd2 := Lib.hid hd2.dsl
            have hat := all_take (p := gpP k) (zipM_at hx hy) Hall.out
            have Hat := Lib.hid hat
            have hsl : (scaleL y (dPh (k : Int))).length ≤ 1048576 := by have := scaleL_len y (dPh (k : Int)); omega
            have Hs := Lib.hid (fun W (h : Hid (DSl W D (.slice q y.length qc) y)) => sscale D (.slice q y.length qc) y (dPh (k : Int)) W h.out (by omega))
            have He := Lib.hid (fun W P' u (h : DSl W P' u (scaleL y (dPh (k : Int)))) (h' : DSl W B (.slice p x.length pc) x) => sequalSt P' B u (.slice p x.length pc) _ x W h h' hsl (by omega))
            have Hg := Lib.hid (show gpP k (x, y) = (scaleB y (dPh (k : Int)) && decide (scaleL y (dPh (k : Int)) = x)) from rfl)
            rw [hxl] at c0 Hd1 He
            rw [hyl] at c1 Hd2 Hs
            have hS : SP1 wr g' j D (.slice q N.length qc) y wr := ⟨c1, hgl', Hd2, Below.refl _ _⟩
            clear hat hd1 hd2 hrow hrow' r1 r2 hx hy hsl
            generalize dPh (k : Int) = P at *
            generalize scaleL y P = L at *
            generalize scaleB y P = t1 at *
            go_upto_region 10 with fail
            go_cut [9, 10] from 30 to 57 (fun s9 s10 wx => ∃ z, z = s9 ∧ Hid (DSl wx wr.heap.size z L) ∧ s10 = .bool t1 ∧ Hid (Below wr.heap.size wr wx))
            case first =>
              go_region_held3 (fun w' => w'.cell? ⟨g', j, none⟩ = some (.slice q N.length qc) ∧ g' < w'.heap.size ∧ Hid (DSl w' D (.slice q N.length qc) y) ∧ Below wr.heap.size wr w') (first | (show SP1 wr g' j D (.slice q N.length qc) y _; (with_reducible exact hS.drew)) | (show SP1 wr g' j D (.slice q N.length qc) y _; (with_reducible refine SP1.below ?_ hbR); first | assumption | exact ⟨by assumption, by assumption, by assumption, by assumption⟩))
                (first | (go_at_call 57; (with_reducible refine (Hp.out _).mono ?_); rintro e wR ⟨rfl, hbR⟩; have hwR := hbR.size) | (go_at_call 56; have hh : SP1 wr g' j D (.slice q N.length qc) y wR := (by assumption); (with_reducible refine (Hs.out _ hh.dsl).mono ?_); rintro e wR ⟨⟨u, rfl, hdR⟩, hbR⟩))
              all_goals go_wp2_with fail
              all_goals go_meet
              all_goals exact ⟨_, rfl, Lib.hid (hdR.mono hh.low.size), rfl, Lib.hid (below_up hh.low hbR hh.low.size)⟩
            case rest =>
            obtain ⟨z, rfl, Hdu, rfl, Hbx⟩ := hcut
            have Hb3 := Lib.hid (below_up Hbs.out Hbx.out Hbs.out.size)
            have c2 := cell_below c0 Hbx.out hgl
            have hgl3 := Nat.lt_of_lt_of_le hgl Hbx.out.size
            have He2 := Lib.hid (He.out wc wr.heap.size z Hdu.out (Hd1.out.below Hbx.out))
            clear c0 c1 He Hs Hp hS
            cases t1 with
            | false =>
              have Hn := Lib.hid (show gpP k (x, y) = false from Hg.out)
              go_wp2_with fail
              go_roundg (N.length - (j + 1))
              case measure => omega
              case rel => exact ⟨j + 1, false, rfl, by omega, by go_num, rfl, Lib.hid (Hat.out.trans Hn.out), Hb3⟩
            | true =>
              have Hn := Lib.hid (show gpP k (x, y) = decide (L = x) from Hg.out)
              generalize decide (L = x) = t2 at *
              go_wp2_with fail
              refine (He2.out).mono ?_
              rintro e w5 ⟨rfl, hb5⟩
              have Hb5 := Lib.hid (below_up Hb3.out hb5 Hb3.out.size)
              clear hb5
              go_wp2_with fail
              go_roundg (N.length - (j + 1))
              case measure => omega
              case rel => exact ⟨j + 1, t2, rfl, by omega, by go_num, rfl, Lib.hid (Hat.out.trans Hn.out), Hb5⟩
        · obtain rfl : j = N.length := by omega
          cases t with
          | false =>
            have Hf := Lib.hid (all_no2 (p := gpP k) Hall.out)
            go_wp2_with fail
            go_roundg (8 - (k + 1))
            case measure => omega
            case rel => exact ⟨k + 1, rfl, by omega, by go_num, Lib.hid (fun j hj => by
              by_cases e : j = k
              · subst e; exact Hf.out
              · exact Hno.out j (by omega)), Hbs⟩
          | true =>
            have hzl : (M.zip N).length = N.length := by rw [List.length_zip, Hl.out]; omega
            have hall : gpAt M N k = true := by have := Hall.out; rwa [List.take_of_length_le (by omega)] at this
            have hf := find_hit hlt Hno.out hall
            obtain rfl : V = k := HV.out.trans (by rw [hf]; rfl)
            obtain rfl : T = true := HT.out.trans (by rw [hf]; rfl)
            clear hf hall
            go_wp2_with fail
            go_returns
            exact ⟨rfl, Hbs.out⟩
    · obtain rfl : k = 8 := by omega
      have hf := find_none Hno.out
      obtain rfl : V = 0 := HV.out.trans (by rw [hf]; rfl)
      obtain rfl : T = false := HT.out.trans (by rw [hf]; rfl)
      clear hf
      go_wp2_with fail
      go_returns
      exact ⟨rfl, Hb.out⟩
set_option maxRecDepth 100000 in
set_option maxHeartbeats 1600000 in
theorem sgp_no0 (B C : Nat) (v u : Value) (M : List (List Dw)) (w : World) (hv : DSM w B C v M) (hn : M.length ≤ 1048576) (hm : amps M ≤ 1048576) (hM : mtB M = false) :
    Calls Try.prog 36 #[v, u] w fun e w' => e = .returned (.tuple #[.int .i64 0, .bool false]) ∧ Below w.heap.size w w' := by
  have H1 := Lib.hid (svalidMt B C v M w hv hn hm)
  rw [hM] at H1
  clear hM
  obtain ⟨a, cap, rfl, -, -⟩ := hv
  go_enter Try.func36, Try.ntmps36
  go_wp2_with fail
  refine (H1.out).mono ?_
  rintro e w1 ⟨rfl, hb1⟩
  have Hb1 := Lib.hid hb1
  clear hb1
  go_wp2_with fail
  go_returns
  exact ⟨rfl, Hb1.out⟩
set_option maxRecDepth 100000 in
set_option maxHeartbeats 1600000 in
theorem sgp_no1 (B C D E : Nat) (v u : Value) (M N : List (List Dw)) (w : World) (hv : DSM w B C v M) (hu : DSM w D E u N) (hn : M.length ≤ 1048576) (hn' : N.length ≤ 1048576) (hm : amps M ≤ 1048576) (hm' : amps N ≤ 1048576) (hM : mtB M = true) (hN : mtB N = false) :
    Calls Try.prog 36 #[v, u] w fun e w' => e = .returned (.tuple #[.int .i64 0, .bool false]) ∧ Below w.heap.size w w' := by
  have H1 := Lib.hid (svalidMt B C v M w hv hn hm)
  have H2 := Lib.hid (fun W (h : DSM W D E u N) => svalidMt D E u N W h hn' hm')
  have Hu := Lib.hid hu
  rw [hM] at H1
  rw [hN] at H2
  clear hM hN
  obtain ⟨a, cap, rfl, -, -⟩ := hv
  go_enter Try.func36, Try.ntmps36
  go_wp2_with fail
  refine (H1.out).mono ?_
  rintro e w1 ⟨rfl, hb1⟩
  have Hb1 := Lib.hid hb1
  have Hu1 := Lib.hid (Hu.out.below hb1)
  clear hb1
  go_wp2_with fail
  refine (H2.out _ Hu1.out).mono ?_
  rintro e w2 ⟨rfl, hb2⟩
  have Hb2 := Lib.hid (Hb1.out.trans (hb2.mono Hb1.out.size))
  clear hb2
  go_wp2_with fail
  go_returns
  exact ⟨rfl, Hb2.out⟩
set_option maxRecDepth 100000 in
set_option maxHeartbeats 1600000 in
theorem sgp_no2 (B C D E : Nat) (v u : Value) (M N : List (List Dw)) (w : World) (hv : DSM w B C v M) (hu : DSM w D E u N) (hn : M.length ≤ 1048576) (hn' : N.length ≤ 1048576) (hm : amps M ≤ 1048576) (hm' : amps N ≤ 1048576) (hM : mtB M = true) (hN : mtB N = true) (hl : M.length ≠ N.length) :
    Calls Try.prog 36 #[v, u] w fun e w' => e = .returned (.tuple #[.int .i64 0, .bool false]) ∧ Below w.heap.size w w' := by
  have H1 := Lib.hid (svalidMt B C v M w hv hn hm)
  have H2 := Lib.hid (fun W (h : DSM W D E u N) => svalidMt D E u N W h hn' hm')
  have Hu := Lib.hid hu
  rw [hM] at H1
  rw [hN] at H2
  clear hM hN
  obtain ⟨a, cap, rfl, -, -⟩ := hv
  obtain ⟨a', cap', rfl, -, -⟩ := hu
  have hd2 : ((M.length : Int) != N.length) = true := by simp; omega
  go_enter Try.func36, Try.ntmps36
  go_wp2_with fail
  refine (H1.out).mono ?_
  rintro e w1 ⟨rfl, hb1⟩
  have Hb1 := Lib.hid hb1
  have Hu1 := Lib.hid (Hu.out.below hb1)
  clear hb1
  go_wp2_with fail
  refine (H2.out _ Hu1.out).mono ?_
  rintro e w2 ⟨rfl, hb2⟩
  have Hb2 := Lib.hid (Hb1.out.trans (hb2.mono Hb1.out.size))
  clear hb2
  go_wp2_with fail
  go_returns
  exact ⟨rfl, Hb2.out⟩
theorem sgp (B C D E : Nat) (v u : Value) (M N : List (List Dw)) (w : World) (hv : DSM w B C v M) (hu : DSM w D E u N) (hn : M.length ≤ 1048576) (hn' : N.length ≤ 1048576) (hm : amps M ≤ 1048576) (hm' : amps N ≤ 1048576) :
    Calls Try.prog 36 #[v, u] w fun e w' => e = .returned (.tuple #[.int .i64 (gpV M N), .bool (gpB M N)]) ∧ Below w.heap.size w w' := by
  have hno : gpF M N = none → gpV M N = 0 ∧ gpB M N = false := fun h => ⟨by unfold gpV; rw [h]; rfl, by unfold gpB; rw [h]; rfl⟩
  cases hM : mtB M with
  | false =>
    have h := hno (by unfold gpF; rw [hM]; rfl)
    rw [h.1, h.2]; exact sgp_no0 B C v u M w hv hn hm hM
  | true =>
    cases hN : mtB N with
    | false =>
      have h := hno (by unfold gpF; rw [hM, hN]; rfl)
      rw [h.1, h.2]; exact sgp_no1 B C D E v u M N w hv hu hn hn' hm hm' hM hN
    | true =>
      by_cases hl : M.length = N.length
      · exact sgp_yes B C D E v u M N w hv hu hM hN hl
      · have h := hno (by unfold gpF; rw [hM, hN, decide_eq_false hl]; rfl)
        rw [h.1, h.2]; exact sgp_no2 B C D E v u M N w hv hu hn hn' hm hm' hM hN hl
end Go.Proofs.Ytadimihfbpkilaa
