/- BaseB18: several of our texts in one: LyF LyKq ApKe ApK CiKv. -/
import Derived.Test.YtckfklpgnneodaaGreatLyS
import Derived.Test.YtckfklpgnneodaaGreatBaseB11
import Derived.Test.YtckfklpgnneodaaGreatBaseB14
import Derived.Test.YtckfklpgnneodaaGreatApKd
import Derived.Test.YtckfklpgnneodaaGreatBaseB09
import Derived.Test.YtckfklpgnneodaaGreatBaseB10
import Derived.Lib.SliceRun
import Derived.Test.YtckfklpgnneodaaGreatBaseB17
import Derived.Test.YtckfklpgnneodaaGreatBaseB06
namespace Go.Proofs.YtckfklpgnneodaaGreat
open Go.RowKit
open Classical in
/-- CircuitFromLayers: whether it answers, and what. -/
noncomputable def cfB (n : Int) (M : List (List Gt)) : Bool := decide (∀ l ∈ M, lyOk l) && ciB n M.flatten
noncomputable def cfN (n : Int) (M : List (List Gt)) : Int := if cfB n M then n else 0
noncomputable def cfL (n : Int) (M : List (List Gt)) : List Gt := if cfB n M then M.flatten else []
open Classical in
theorem cfB_all {n : Int} {M : List (List Gt)} (h : ∀ l ∈ M, lyOk l) : cfB n M = ciB n M.flatten := by
  unfold cfB
  rw [decide_eq_true h, Bool.true_and]
def HCf (w : World) (lg j : Nat) (rv : Value) (gl o : Nat) (x : Gt) (w' : World) : Prop := w'.cell? ⟨lg, j, none⟩ = some rv ∧ w'.cell? ⟨gl, o, none⟩ = some (.int .i64 x.k) ∧ w'.cell? ⟨gl, o + 1, none⟩ = some (.int .i64 x.a) ∧ w'.cell? ⟨gl, o + 2, none⟩ = some (.int .i64 x.b) ∧ w'.cell? ⟨gl, o + 3, none⟩ = some (.int .i64 x.c) ∧ lg < w'.heap.size ∧ gl < w'.heap.size ∧ Below w.heap.size w w'
theorem HCf.drew {w w1 : World} {lg j gl o : Nat} {rv : Value} {x : Gt} (h : HCf w lg j rv gl o x w1) : HCf w lg j rv gl o x w1.drew :=
  let ⟨c0, c1, c2, c3, c4, z0, z1, l⟩ := h; ⟨c0, c1, c2, c3, c4, z0, z1, l.drew⟩
theorem HCf.below {w w1 w2 : World} {lg j gl o : Nat} {rv : Value} {x : Gt} (h : HCf w lg j rv gl o x w1) (hb : Below w1.heap.size w1 w2) : HCf w lg j rv gl o x w2 :=
  let ⟨c0, c1, c2, c3, c4, z0, z1, l⟩ := h
  ⟨cell_below c0 hb z0, cell_below c1 hb z1, cell_below c2 hb z1, cell_below c3 hb z1, cell_below c4 hb z1, Nat.lt_of_lt_of_le z0 hb.size, Nat.lt_of_lt_of_le z1 hb.size, below_up l hb l.size⟩
attribute [local irreducible] World.cell?
set_option maxRecDepth 100000 in
set_option maxHeartbeats 3200000 in
theorem sdepth (B : Nat) (n : Int) (v : Value) (L : List Gt) (w : World) (hv : gtE.Sl w B v L) (hm : L.length ≤ 1048576) :
    Calls Tryz.prog 10 #[.agg #[.int .i64 n, v]] w fun e w' => e = .returned (.int .i64 (lysM n L).length) ∧ Below w.heap.size w w' := by
  have Hb0 := Lib.hid (show Below w.heap.size w (w.alloc (.cells #[.int .i64 n, v] 26)) by go_grown)
  have H := Lib.hid (slayers B n v L _ (hv.below Hb0.out) hm)
  have HX := Lib.hid (heap_alloc_new w (.cells #[.int .i64 n, v] 26))
  obtain ⟨a, cap, rfl, -, -⟩ := hv
  obtain ⟨c0, c1⟩ := blk_cells2 HX.out
  have hxl := lt_of_block HX.out
  generalize lysM n L = M at *
  go_enter Tryz.func10, Tryz.ntmps10
  go_wp2_with fail
  refine (H.out).mono ?_
  rintro e w1 ⟨⟨r, rfl, p, q, rfl, -, -⟩, hb1⟩
  have Hb1 := Lib.hid (below_nx Hb0.out hb1)
  clear hb1
  go_wp2_with fail
  go_ret
  exact ⟨rfl, Hb1.out⟩
theorem ownr_formS {w : World} {base size : Nat} {e : TypeId} {v : Value} {n : Nat} {xs : List Value} (h : w.ownsRow base e size v n xs) : ∃ p c, v = .slice p n c := by
  rcases h.2 with ⟨rfl, k⟩ | ⟨g, cap, cur, rfl, _⟩
  · exact ⟨none, 0, by rw [k]⟩
  · exact ⟨_, _, rfl⟩
theorem len_take_flat (M : List (List Gt)) (j : Nat) : (M.take j).flatten.length ≤ M.flatten.length := by
  have h : M.flatten = (M.take j).flatten ++ (M.drop j).flatten := by rw [← List.flatten_append, List.take_append_drop]
  rw [h, List.length_append]
  exact Nat.le_add_right _ _
theorem flat_take {M : List (List Gt)} {j : Nat} {r : List Gt} (h : M[j]? = some r) : (M.take (j + 1)).flatten = (M.take j).flatten ++ r := by
  rw [List.take_add_one, h]
  simp
/-- What a list of layers holds: at most as much as the circuit. -/
theorem lysM_amps (n : Int) (L : List Gt) : (lysM n L).length ≤ L.length ∧ ampsG (lysM n L) ≤ L.length := by
  unfold lysM
  split
  · refine ⟨by simpa using layL_len L [], ?_⟩
    have h := (layL_sw L []).perm.length_eq
    simp only [List.flatten_nil, List.nil_append] at h
    have h2 : (layL [] L).flatten.length = ampsG (layL [] L) := by simp [ampsG]
    omega
  · exact ⟨Nat.zero_le _, Nat.zero_le _⟩
end Go.Proofs.YtckfklpgnneodaaGreat
namespace Go.Proofs.YtckfklpgnneodaaGreat
theorem layL_ge : ∀ (L : List Gt) (M : List (List Gt)), M.length ≤ (layL M L).length
  | [], M => Nat.le_refl _
  | g :: L, M => by
    rw [layL]
    have h1 := layL_ge L (layG M g)
    have h2 := layG_len M g
    omega
theorem layL_one : ∀ (L : List Gt) (M : List (List Gt)), (layL M L).length ≤ 1 → (layL M L).flatten = M.flatten ++ L
  | [], M, _ => by simp [layL]
  | g :: L, M, h => by
    rw [layL] at h ⊢
    have h1 := layL_ge L (layG M g)
    have h2 := layG_len M g
    have h0 : layAt M g = 0 := by omega
    have h3 : M.length ≤ 1 := by omega
    rw [layL_one L (layG M g) h]
    have e : (layG M g).flatten = M.flatten ++ [g] := by
      unfold layG
      rw [h0]
      cases M with
      | nil => rfl
      | cons x M =>
        have hM : M = [] := List.length_eq_zero_iff.1 (by rw [List.length_cons] at h3; omega)
        subst hM
        rw [if_neg (by simp)]
        simp
    rw [e]
    simp
theorem layL_ok_one {l : List Gt} (h : lyOk l) : ∀ k, k ≤ l.length → layL [] (l.take k) = if k = 0 then [] else [l.take k]
  | 0, _ => by simp [layL]
  | k + 1, hk => by
    have ih := layL_ok_one h k (by omega)
    obtain ⟨g, hg⟩ : ∃ x, l[k]? = some x := ⟨l[k], List.getElem?_eq_getElem (by omega)⟩
    have hn := h k g hg
    rw [List.take_add_one, hg, layL_app, ih]
    show layG _ g = _
    cases k with
    | zero => rfl
    | succ k =>
      rw [if_neg (by omega), if_neg (by omega)]
      have h0 : layAt [l.take (k + 1)] g = 0 := by
        show (if anyG ([l.take (k + 1)].getD 0 []) g then 1 else 0) = 0
        rw [if_neg (by rw [show [l.take (k + 1)].getD 0 [] = l.take (k + 1) from rfl, hn]; decide)]
      unfold layG
      rw [h0, if_neg (by simp)]
      rfl
/-- A valid list has at most one layer just where no two of its gates share a qubit. -/
theorem share_iff {n : Int} {r : List Gt} (k : ciB n r = true) : (lysM n r).length ≤ 1 ↔ lyOk r := by
  have e : lysM n r = layL [] r := if_pos k
  rw [e]
  constructor
  · intro h
    have h1 := layL_one r [] h
    have h2 : ∀ l ∈ layL [] r, lyOk l := layL_ok fun l h => absurd h (by simp)
    simp only [List.flatten_nil, List.nil_append] at h1
    cases hc : layL [] r with
    | nil =>
      rw [hc] at h1
      simp at h1
      subst h1
      exact lyOk_nil
    | cons x M =>
      rw [hc] at h h1 h2
      have hM : M = [] := List.length_eq_zero_iff.1 (by rw [List.length_cons] at h; omega)
      subst hM
      have hx : x = r := by simpa using h1
      rw [← hx]
      exact h2 x (by simp)
  · intro h
    have h1 := layL_ok_one h r.length (Nat.le_refl _)
    rw [List.take_length] at h1
    rw [h1]
    split <;> simp
theorem ciB_sub {n : Int} {L R : List Gt} (h : ciB n L = true) (hs : ∀ g ∈ R, g ∈ L) (hl : R.length ≤ L.length) : ciB n R = true := by
  obtain ⟨h1, h2, h3⟩ := ciB_parts h
  exact ciB_of (fun g hg => h1 g (hs g hg)) h2 (by omega)
open Classical in
/-- A layer of its own shares a qubit: the answer is no. -/
theorem cfB_share {n : Int} {M : List (List Gt)} {r : List Gt} (hr : r ∈ M) (h : 1 < (lysM n r).length) : cfB n M = false := by
  have hc : ciB n r = true := by
    cases hc : ciB n r with
    | true => rfl
    | false =>
      have : lysM n r = [] := if_neg (by rw [hc]; decide)
      rw [this] at h
      simp at h
  have hn : ¬ lyOk r := fun hk => by
    have := (share_iff hc).2 hk
    omega
  unfold cfB
  rw [Bool.and_eq_false_iff]
  exact .inl (decide_eq_false fun hall => hn (hall r hr))
theorem cfB_long {n : Int} {M : List (List Gt)} (h : 60 < M.flatten.length) : cfB n M = false := by
  have hc : ciB n M.flatten = false := by
    cases hc : ciB n M.flatten with
    | false => rfl
    | true =>
      have := (ciB_parts hc).2.2
      omega
  unfold cfB
  rw [hc, Bool.and_false]
theorem cfB_valid {n : Int} {M : List (List Gt)} (h : ∀ l ∈ M, ¬ 1 < (lysM n l).length) : cfB n M = ciB n M.flatten := by
  cases hc : ciB n M.flatten with
  | false => unfold cfB; rw [hc, Bool.and_false]
  | true =>
    rw [cfB_all, hc]
    intro l hl
    have hcl : ciB n l = true := ciB_sub hc (fun g hg => List.mem_flatten.2 ⟨l, hl, hg⟩) (len_flat hl)
    exact (share_iff hcl).1 (by have := h l hl; omega)
end Go.Proofs.YtckfklpgnneodaaGreat
namespace Go.Proofs.YtckfklpgnneodaaGreat
open Go.RowKit
attribute [local irreducible] World.cell?
set_option maxRecDepth 100000 in
set_option maxHeartbeats 1600000 in
theorem iclone (B : Nat) (v : Value) (l : List Dw) (w : World) (hv : DSl w B v l) (h0 : 0 < l.length) (hm : l.length ≤ 1048576) :
    Calls Tryz.prog 64 #[v] w fun e w' => ∃ r, e = .returned r ∧ DSl w' w.heap.size r l ∧ Below w.heap.size w w' := by
  obtain ⟨i0, hi, hz0, hz1, hz2⟩ := info_parts infoDw
  have qT : ∀ (w : World) (a : Option Addr) (n c n' c' : Nat), (binOp .eql 57 (.slice a n c) (.slice none n' c')).run Tryz.prog w = .ok (.bool a.isNone) w := fun w a n c n' c' => Lib.run_eql_slice_nil w _ _ a n c n' c' Tryz.underlying57
  obtain ⟨a, cap, rfl, hcap, hr⟩ := hv
  obtain ⟨g, rfl, hg, hrow⟩ := hr h0
  have Hsrc := Lib.hid (row_src (hrow.alloc (.cells #[] 83)))
  have Hown := Lib.hid (own_new (w := w) (n := w.heap.size) (t := 83) rfl)
  have Hp := Lib.hid (flat_plain l)
  have Hl := Lib.hid (flat_len l)
  clear hr hrow
  go_enter Tryz.func64, Tryz.ntmps64
  go_wp2_with (first
    | (at_builtin; refine wpList_append_own _ rfl _ _ 57 rfl w.heap.size 83 i0 (.agg #[.int .i64 0, .int .i64 0, .int .i64 0, .int .i64 0, .int .i64 0]) 5 40 Tryz.underlying57 hi hz0 hz1 hz2 rfl (by decide) _ _ _ rfl Hown.out ⟨g, 0, none⟩ l.length cap (flat l) rfl Hl.out Hsrc.out Hp.out ?d3 ?d4 ?d5 ?_))
  case d3 => unfold maxLen; omega
  case d4 => omega
  case d5 => first | omega | (simp; omega) | simp
  intro v' w4 hown' hgrow _
  have hown2 : w4.ownsRow w.heap.size 83 5 v' l.length (flat l) := by
    have h : w4.ownsRow w.heap.size 83 5 v' l.length ([] ++ flat l) := hown'
    rwa [List.nil_append] at h
  have Hs := Lib.hid (DSl.of_own hown2)
  have HB := Lib.hid (((Below.refl w.heap.size w).alloc (Nat.le_refl _) (.cells #[] 83)).grown hgrow (by simp) (fun q hq => by have := Hown.out.lt q hq; omega))
  clear hown' hown2 hgrow
  go_wp2_with fail
  go_ret
  exact ⟨_, rfl, Hs.out, HB.out⟩
set_option maxRecDepth 100000 in
set_option maxHeartbeats 3200000 in
theorem iapGs_yes (B : Nat) (a0 : Option Addr) (capg : Nat) (v : Value) (L : List Gt) (l : List Dw) (w : World) (hg : GsIn w w.heap.size a0 L) (hv : DSl w B v l) (hst : stB l = true) (hL : L.length ≤ 1048576) :
    Calls Tryz.prog 46 #[.slice a0 L.length capg, v] w fun e w' => (∃ r, e = .returned (.tuple #[r, .bool (agsB L l)]) ∧ DSl w' w.heap.size r (agsV L l)) ∧ Below w.heap.size w w' := by
  have hlen := stB_len hst
  have h2 := stB_iff.1 hst
  have hpos : 0 < l.length := by have := qc_len h2.2; omega
  have H1 := Lib.hid (ivalidSt B v l w hv (fun x hx => ok_eb (h2.1 x hx)) (by omega))
  have H2 := Lib.hid (fun W (h : DSl W B v l) => iclone B v l W h hpos (by omega))
  have H3 := Lib.hid (fun (g : Gt) (D : Nat) (u : Value) (o : List Dw) W (h : DSl W D u o) (he : ∀ x ∈ o, x.ok) (hm : o.length ≤ 1048576) => iapG D g u o W h (fun x hx => ok_eb (he x hx)) hm)
  have Hok := Lib.hid h2.1
  have Hv := Lib.hid hv
  rw [hst] at H1
  have HO := Lib.hid (show agsO L l = agsF L l by unfold agsO; rw [hst]; rfl)
  have HV := Lib.hid (show agsV L l = (agsO L l).getD [] from rfl)
  have HT := Lib.hid (show agsB L l = (agsO L l).isSome from rfl)
  generalize agsV L l = V at *
  generalize agsB L l = T at *
  generalize agsO L l = O at *
  have Hg := Lib.hid hg
  clear hst h2 hpos hg
  obtain ⟨av, capv, rfl, -, -⟩ := hv
  go_enter Tryz.func46, Tryz.ntmps46
  go_wp2_with fail
  refine (H1.out).mono ?_
  rintro e w1 ⟨rfl, hb1⟩
  have Hb1 := Lib.hid hb1
  have Hv1 := Lib.hid (Hv.out.below hb1)
  have hs1 := hb1.size
  clear hb1
  go_wp2_with fail
  refine (H2.out _ Hv1.out).mono ?_
  rintro e w2 ⟨u, rfl, hd2, hb2⟩
  have Hb2 := Lib.hid (below_nx Hb1.out hb2)
  have Hd2 := Lib.hid (hd2.mono hs1)
  have Hst := Lib.hid (show agsF (L.drop 0) l = O from HO.out.symm)
  clear hd2 hb2 H1 H2 HO
  go_wp2_with fail
  go_loopg [6, 18] L.length (fun m ov i wr => ∃ (j : Nat) (o : List Dw) (u' : Value), m = L.length - j ∧ j ≤ L.length ∧ i = .int .i64 j ∧ u' = ov ∧ o.length ≤ 16 ∧ Hid (∀ x ∈ o, x.ok) ∧ Hid (agsF (L.drop j) o = O) ∧ Hid (DSl wr w.heap.size u' o) ∧ Hid (Below w.heap.size w wr))
  case atStart => exact ⟨0, l, u, rfl, Nat.zero_le _, rfl, rfl, hlen, Hok, Hst, Hd2, Hb2⟩
  case round =>
    obtain ⟨j, o, u', rfl, hj, rfl, rfl, ho, Hok2, Hap, Hd, Hb⟩ := hrel
    have hsw := Hb.out.size
    by_cases hlt : j < L.length
    · obtain ⟨g, hx⟩ : ∃ g, L[j]? = some g := ⟨L[j], List.getElem?_eq_getElem hlt⟩
      obtain ⟨gg, off, rfl, hgB, hcl⟩ := (Hg.out.below Hb.out).2 (by omega)
      obtain ⟨c0, c1, c2, c3⟩ := hcl j g hx
      have hgl := Nat.lt_of_lt_of_le hgB hsw
      have HX := Lib.hid (heap_alloc_new wr (.cells #[.int .i64 g.k, .int .i64 g.a, .int .i64 g.b, .int .i64 g.c] 44))
      have Hb' := Lib.hid (show Below w.heap.size w (wr.alloc (.cells #[.int .i64 g.k, .int .i64 g.a, .int .i64 g.b, .int .i64 g.c] 44)) from Hb.out.alloc hsw _)
      have Hd' := Lib.hid (Hd.out.below ((Below.refl _ _).alloc (Nat.le_refl _) (.cells #[.int .i64 g.k, .int .i64 g.a, .int .i64 g.b, .int .i64 g.c] 44)))
      have hs' : w.heap.size ≤ (wr.alloc (.cells #[.int .i64 g.k, .int .i64 g.a, .int .i64 g.b, .int .i64 g.c] 44)).heap.size := by simp; omega
      have Hstep := Lib.hid (ags_step (o := o) hx)
      have hvl := agV_len g o
      have Hok3 := Lib.hid (agV_oks g o)
      have Hc := Lib.hid (H3.out g _ _ o (wr.alloc (.cells #[.int .i64 g.k, .int .i64 g.a, .int .i64 g.b, .int .i64 g.c] 44)) Hd'.out Hok2.out (by omega))
      have Hs' := Lib.hid hs'
      clear hx hcl hgB hs'
      generalize agV g o = o2 at *
      generalize agB g o = t at *
      go_wp2_with fail
      refine (Hc.out).mono ?_
      rintro e w4 ⟨⟨r, rfl, hd4⟩, hb4⟩
      have Hd4 := Lib.hid (hd4.mono Hs'.out)
      have Hb4 := Lib.hid (below_up Hb'.out hb4 Hs'.out)
      have hs4 := Hb4.out.size
      clear hd4 hb4 c0 c1 c2 c3 Hc hgl
      have h := Hstep.out.symm.trans Hap.out
      cases t with
      | true =>
        have Hn := Lib.hid (show agsF (L.drop (j + 1)) o2 = O from h)
        clear h
        go_wp2_with fail
        go_roundg (L.length - (j + 1))
        case measure => omega
        case rel => exact ⟨j + 1, o2, r, rfl, by omega, by go_num, rfl, by omega, Hok3, Hn, Hd4, Hb4⟩
      | false =>
        have hO : O = none := h.symm
        subst hO
        obtain rfl : V = [] := HV.out
        obtain rfl : T = false := HT.out
        clear h
        go_wp2_with fail
        go_returns
        exact ⟨⟨_, rfl, DSl.nil⟩, by have := Hb4.out; go_grown⟩
    · obtain rfl : j = L.length := by omega
      have hO := Hap.out
      rw [List.drop_of_length_le (Nat.le_refl _)] at hO
      obtain rfl : V = o := HV.out.trans (by rw [← hO]; rfl)
      obtain rfl : T = true := HT.out.trans (by rw [← hO]; rfl)
      clear hO
      go_wp2_with fail
      go_returns
      exact ⟨⟨_, rfl, Hd.out⟩, Hb.out⟩
set_option maxRecDepth 100000 in
set_option maxHeartbeats 1600000 in
theorem iapGs0 (B : Nat) (a0 : Option Addr) (cap : Nat) (v : Value) (L : List Gt) (l : List Dw) (w : World) (hg : GsIn w w.heap.size a0 L) (hv : DSl w B v l) (he : Eb l) (hm : l.length ≤ 1048576) (hn : L.length ≤ 1048576) : Calls Tryz.prog 46 #[.slice a0 L.length cap, v] w fun e w' => (∃ r, e = .returned (.tuple #[r, .bool (agsB L l)]) ∧ DSl w' w.heap.size r (agsV L l)) ∧ Below w.heap.size w w' := by
  cases hst : stB l with
  | true => exact iapGs_yes B a0 cap v L l w hg hv hst hn
  | false =>
    have h0 : agsO L l = none := by unfold agsO; rw [hst]; rfl
    rw [show agsB L l = false by unfold agsB; rw [h0]; rfl, show agsV L l = [] by unfold agsV; rw [h0]; rfl]
    have H1 := Lib.hid (ivalidSt B v l w hv he hm)
    rw [hst] at H1
    clear hst h0 hg he
    obtain ⟨av, capv, rfl, -, -⟩ := hv
    go_enter Tryz.func46, Tryz.ntmps46
    go_wp2_with fail
    refine (H1.out).mono ?_
    rintro e w1 ⟨rfl, hb1⟩
    have Hb1 := Lib.hid hb1
    have hs1 := hb1.size
    clear hb1
    go_wp2_with fail
    go_returns
    exact ⟨⟨_, rfl, DSl.nil⟩, by have := Hb1.out; go_grown⟩
theorem iapGs (B C : Nat) (vg v : Value) (L : List Gt) (l : List Dw) (w : World) (hg : gtE.Sl w C vg L) (hv : DSl w B v l) (he : Eb l) (hm : l.length ≤ 1048576) (hn : L.length ≤ 1048576) : Calls Tryz.prog 46 #[vg, v] w fun e w' => (∃ r, e = .returned (.tuple #[r, .bool (agsB L l)]) ∧ DSl w' w.heap.size r (agsV L l)) ∧ Below w.heap.size w w' := by
  obtain ⟨a, cap, rfl, h⟩ := GsIn.of_sl hg hn
  exact iapGs0 B a cap v L l w h hv he hm hn
end Go.Proofs.YtckfklpgnneodaaGreat
namespace Go.Proofs.YtckfklpgnneodaaGreat
open Go.RowKit
theorem col_id1 : ∀ k : Fin 2, col (idM 1) k.val = basisL 1 ((k.val : Nat) : Int) := by decide +kernel
theorem col_id2 : ∀ k : Fin 4, col (idM 2) k.val = basisL 2 ((k.val : Nat) : Int) := by decide +kernel
theorem col_id3 : ∀ k : Fin 8, col (idM 3) k.val = basisL 3 ((k.val : Nat) : Int) := by decide +kernel
theorem col_id4 : ∀ k : Fin 16, col (idM 4) k.val = basisL 4 ((k.val : Nat) : Int) := by decide +kernel
theorem col_id {n : Int} (h : 1 ≤ n ∧ n ≤ 4) {k : Nat} (hk : k < 2 ^ n.toNat) : col (idM n) k = basisL n (k : Int) := by
  rcases (show n = 1 ∨ n = 2 ∨ n = 3 ∨ n = 4 by omega) with rfl | rfl | rfl | rfl
  · exact col_id1 ⟨k, hk⟩
  · exact col_id2 ⟨k, hk⟩
  · exact col_id3 ⟨k, hk⟩
  · exact col_id4 ⟨k, hk⟩
theorem idM_rows {n : Int} (h : 1 ≤ n ∧ n ≤ 4) : ∀ r ∈ idM n, (idM n).length ≤ r.length := by
  rcases (show n = 1 ∨ n = 2 ∨ n = 3 ∨ n = 4 by omega) with rfl | rfl | rfl | rfl <;> decide +kernel
theorem basis_ok (n : Int) (h : 1 ≤ n ∧ n ≤ 4) : ∀ k : Nat, k < 2 ^ n.toNat → (∀ x ∈ basisL n (k : Int), x.ok) ∧ (basisL n (k : Int)).length ≤ 16 := by
  have h1 : ∀ k : Fin 2, (∀ x ∈ basisL 1 ((k.val : Nat) : Int), x.ok) ∧ (basisL 1 ((k.val : Nat) : Int)).length ≤ 16 := by decide +kernel
  have h2 : ∀ k : Fin 4, (∀ x ∈ basisL 2 ((k.val : Nat) : Int), x.ok) ∧ (basisL 2 ((k.val : Nat) : Int)).length ≤ 16 := by decide +kernel
  have h3 : ∀ k : Fin 8, (∀ x ∈ basisL 3 ((k.val : Nat) : Int), x.ok) ∧ (basisL 3 ((k.val : Nat) : Int)).length ≤ 16 := by decide +kernel
  have h4 : ∀ k : Fin 16, (∀ x ∈ basisL 4 ((k.val : Nat) : Int), x.ok) ∧ (basisL 4 ((k.val : Nat) : Int)).length ≤ 16 := by decide +kernel
  intro k hk
  rcases (show n = 1 ∨ n = 2 ∨ n = 3 ∨ n = 4 by omega) with rfl | rfl | rfl | rfl
  · exact h1 ⟨k, hk⟩
  · exact h2 ⟨k, hk⟩
  · exact h3 ⟨k, hk⟩
  · exact h4 ⟨k, hk⟩
attribute [local irreducible] World.cell?
set_option maxRecDepth 100000 in
set_option maxHeartbeats 1600000 in
theorem imatL1 (D C b : Nat) (vg c : Value) (L : List Gt) (l : List Dw) (w : World) (hx : w.heap[b]? = some (.cells #[vg] 24 (0, 0))) (hg : gtE.Sl w C vg L) (hc : DSl w D c l) (he : Eb l) (hm : l.length ≤ 1048576) (hn : L.length ≤ 1048576) :
    Calls Tryz.prog 45 #[c, .pointer (some ⟨b, 0, none⟩)] w fun e w' => (∃ r, e = .returned (.tuple #[r, .bool (agsB L l)]) ∧ DSl w' w.heap.size r (agsV L l)) ∧ Below w.heap.size w w' := by
  have H := Lib.hid (iapGs D C vg c L l w hg hc he hm hn)
  have c0 := cell_at hx 0 _ rfl
  have hgl := lt_of_block hx
  clear hx he hm hn
  generalize agsV L l = SL at *
  generalize agsB L l = SB at *
  obtain ⟨a', cap', rfl, -, -⟩ := hc
  obtain ⟨a2, cap2, rfl, -, -⟩ := hg
  go_enter Tryz.func45, Tryz.ntmps45
  go_wp2_with fail
  refine (H.out).mono ?_
  rintro e w1 ⟨⟨q, rfl, hd⟩, hb1⟩
  have Hd := Lib.hid hd
  have Hb1 := Lib.hid hb1
  clear hd hb1
  go_wp2_with fail
  go_returns
  exact ⟨⟨_, rfl, Hd.out⟩, Hb1.out⟩
set_option maxRecDepth 100000 in
set_option maxHeartbeats 3200000 in
theorem imatL (C : Nat) (vg : Value) (L : List Gt) (m : Nat) (w : World) (hg : gtE.Sl w C vg L) (h1 : 1 ≤ m) (h4 : m ≤ 4) (hL : L.length ≤ 1048576) : Calls Tryz.prog 25 #[vg, .int .i64 (m : Int)] w fun e w' => (∃ r, e = .returned (.tuple #[r, .bool (cirB L m)]) ∧ DSM w' w.heap.size w'.heap.size r (cirM L m)) ∧ Below w.heap.size w w' := by
  have hn : 1 ≤ (m : Int) ∧ (m : Int) ≤ 4 := by omega
  have HX := Lib.hid (heap_alloc_new w (.cells #[vg] 24))
  have Hb0 := Lib.hid (show Below w.heap.size w (w.alloc (.cells #[vg] 24)) by go_grown)
  have Hg := Lib.hid (hg.below Hb0.out)
  have c0 := cell_at HX.out 0 _ rfl
  have H2 := Lib.hid (fun W => iident (m : Int) W (by omega) (by omega))
  have hl : (idM (m : Int)).length = 2 ^ m := by rw [idM_len hn, Int.toNat_natCast]
  have eF : ∀ args w, (callFunc 45 args).run Tryz.prog w = .ok (.enter 45 args) w := Tryz.call45
  have h16 : (idM (m : Int)).length ≤ 16 := (idM_amps (m : Int)).1
  have H3 := Lib.hid (fun R S u W (h : DSM W R S u (idM (m : Int))) (hx : W.heap[w.heap.size]? = some (.cells #[vg] 24 (0, 0))) (hg : gtE.Sl W C vg L) =>
    imapC 45 #[.pointer (some ⟨w.heap.size, 0, none⟩)] eF R S u (idM (m : Int)) (fun k => agsB L (basisL (m : Int) (k : Int))) (fun k => agsV L (basisL (m : Int) (k : Int))) W h (idM_rows hn) (by omega)
      (fun k hk ht => by rw [hl] at hk ⊢; rw [agsV_len ht, basis_len h1 h4 hk])
      (fun k hk D c W' hW hc => by
        rw [hl] at hk
        rw [col_id hn (by rw [Int.toNat_natCast]; exact hk)] at hc
        have hk' : k < 2 ^ (m : Int).toNat := by rw [Int.toNat_natCast]; exact hk
        exact imatL1 D C w.heap.size vg c L (basisL (m : Int) (k : Int)) W' ((hW.block _ (lt_of_block hx)).trans hx) (hg.below hW) hc (fun x hx => ok_eb ((basis_ok (m : Int) hn k hk').1 x hx)) (by have := (basis_ok (m : Int) hn k hk').2; omega) hL))
  have hM : (if (List.range (idM (m : Int)).length).all (fun k => agsB L (basisL (m : Int) (k : Int))) = true then colsM (mapX (idM (m : Int)).length fun k => agsV L (basisL (m : Int) (k : Int))) else []) = cirM L m := by
    rw [hl]; rfl
  have hB : ((List.range (idM (m : Int)).length).all (fun k => agsB L (basisL (m : Int) (k : Int)))) = cirB L m := by
    rw [hl]; rfl
  rw [hM, hB] at H3
  clear hM hB hl h16 hn
  generalize cirM L m = SL at *
  generalize cirB L m = SB at *
  obtain ⟨a2, cap2, rfl, -, -⟩ := hg
  go_enter Tryz.func25, Tryz.ntmps25
  go_wp2_with fail
  refine (H2.out _).mono ?_
  rintro e w2 ⟨u, rfl, hd2, hb2⟩
  have H4 := Lib.hid (H3.out _ _ _ _ hd2 (below_blk hb2 (lt_of_block HX.out) HX.out) (Hg.out.below hb2))
  have Hb2 := Lib.hid (below_nx Hb0.out hb2)
  have hs2 := Hb2.out.size
  clear hb2 hd2 H3
  go_wp2_with fail
  refine (H4.out).mono ?_
  rintro e w3 ⟨⟨q, rfl, hd⟩, hb3⟩
  have Hd := Lib.hid (hd.mono (D := w.heap.size) (E := w3.heap.size) hs2 (Nat.le_refl _))
  have Hb3 := Lib.hid (below_nx Hb2.out hb3)
  clear hd hb3 H4
  go_wp2_with fail
  go_returns
  exact ⟨⟨_, rfl, Hd.out⟩, Hb3.out⟩
end Go.Proofs.YtckfklpgnneodaaGreat
namespace Go.Proofs.YtckfklpgnneodaaGreat
open Go.RowKit
attribute [local irreducible] World.cell?
set_option maxRecDepth 100000 in
set_option maxHeartbeats 3200000 in
theorem icirc (B : Nat) (n : Int) (v : Value) (l : List Gt) (w : World) (hv : gtE.Sl w B v l) (hm : l.length ≤ 1048576) (n0 : -9223372036854775808 ≤ n) (n1 : n ≤ 9223372036854775807) :
    Calls Tryz.prog 12 #[.agg #[.int .i64 n, v]] w fun e w' => (∃ r, e = .returned (.tuple #[r, .bool (ccB n l)]) ∧ DSM w' w.heap.size w'.heap.size r (ccM n l)) ∧ Below w.heap.size w w' := by
  have HX := Lib.hid (heap_alloc_new w (.cells #[.int .i64 n, v] 26))
  have Hb0 := Lib.hid (show Below w.heap.size w (w.alloc (.cells #[.int .i64 n, v] 26)) by go_grown)
  have Hv := Lib.hid (hv.below Hb0.out)
  obtain ⟨c0, c1⟩ := blk_cells2 HX.out
  have hCl := lt_of_block HX.out
  have H1 := Lib.hid (fun W (h : gtE.Sl W B v l) => ivalidC B n v l W h hm n0 n1)
  obtain ⟨pa, ca, hpa, -, -⟩ := id hv
  clear hv
  cases hc : ciB n l with
  | false =>
    rw [hc] at H1
    rw [show ccB n l = false by unfold ccB; rw [hc]; rfl, show ccM n l = [] by unfold ccM; rw [hc]; rfl]
    clear hc
    subst hpa
    go_enter Tryz.func12, Tryz.ntmps12
    go_wp2_with fail
    refine (H1.out _ Hv.out).mono ?_
    rintro e w1 ⟨rfl, hb1⟩
    have Hb1 := Lib.hid (below_nx Hb0.out hb1)
    clear hb1 c0 c1 hCl
    go_wp2_with fail
    go_returns
    exact ⟨⟨_, rfl, DSM.nil⟩, by have := Hb1.out; go_grown⟩
  | true =>
    rw [hc] at H1
    have hn : 1 ≤ n ∧ n ≤ 4 := by
      have h := hc
      unfold ciB at h
      rw [Bool.and_eq_true, Bool.and_eq_true] at h
      exact of_decide_eq_true h.2.1
    obtain ⟨m, rfl⟩ : ∃ m : Nat, n = (m : Int) := ⟨n.toNat, by omega⟩
    have H2 := Lib.hid (fun W (h : gtE.Sl W B v l) => imatL B v l m W h (by omega) (by omega) hm)
    rw [show ccB (m : Int) l = cirB l m by unfold ccB; rw [hc, Int.toNat_natCast]; rfl, show ccM (m : Int) l = cirM l m by unfold ccM; rw [hc, Int.toNat_natCast]; rfl]
    generalize cirM l m = SL at *
    generalize cirB l m = SB at *
    clear hc hn
    subst hpa
    go_enter Tryz.func12, Tryz.ntmps12
    go_wp2_with fail
    refine (H1.out _ Hv.out).mono ?_
    rintro e w1 ⟨rfl, hb1⟩
    have HX1 := Lib.hid (below_blk hb1 (lt_of_block HX.out) HX.out)
    have Hv1 := Lib.hid (Hv.out.below hb1)
    have Hb1 := Lib.hid (below_nx Hb0.out hb1)
    clear hb1 c0 c1 hCl
    obtain ⟨c0, c1⟩ := blk_cells2 HX1.out
    have hCl := lt_of_block HX1.out
    go_wp2_with fail
    refine (H2.out _ Hv1.out).mono ?_
    rintro e w3 ⟨⟨q, rfl, hd⟩, hb3⟩
    have Hd := Lib.hid (hd.mono (D := w.heap.size) (E := w3.heap.size) Hb1.out.size (Nat.le_refl _))
    have Hb3 := Lib.hid (below_nx Hb1.out hb3)
    clear hd hb3 c0 c1 hCl
    go_wp2_with fail
    go_returns
    exact ⟨⟨_, rfl, Hd.out⟩, Hb3.out⟩
end Go.Proofs.YtckfklpgnneodaaGreat
