/- BaseB21: several of our texts in one: MtKp DsKd DsK. -/
import Derived.Test.YtggjbpgibdpflaaBaseB18
import Derived.Test.YtggjbpgibdpflaaDsKc
import Derived.Test.YtggjbpgibdpflaaBaseB11
import Derived.Test.YtggjbpgibdpflaaDsKa
import Derived.Test.YtggjbpgibdpflaaBaseB06
import Derived.Test.YtggjbpgibdpflaaPhF
namespace Go.Proofs.Ytggjbpgibdpflaa
theorem root_zero : Zw.zero.root = Zw.zero := by decide
theorem rootN_zero : ∀ k : Nat, rootN k Zw.zero = Zw.zero
  | 0 => rfl
  | k + 1 => by rw [rootN, root_zero]; exact rootN_zero k
theorem upB_zero : ∀ k : Nat, upB k Zw.zero = true
  | 0 => rfl
  | k + 1 => by rw [upB, root_zero, upB_zero k]; decide
theorem red_zero : ∀ k : Nat, red k Zw.zero = (Zw.zero, 0)
  | 0 => rfl
  | k + 1 => by rw [red, if_pos (by decide), show divV Zw.zero = Zw.zero by decide]; exact red_zero k
theorem mul_zeroZ (x : Zw) : x.mul .zero = .zero := by simp [Zw.mul, Zw.zero]
theorem add_zeroZ (x : Zw) : x.add .zero = x := by simp [Zw.add, Zw.zero]
theorem new_zero {k : Int} (h0 : 0 ≤ k) (h1 : k ≤ 120) : newB .zero k = true ∧ newV .zero k = .zero := by
  have hb : newB .zero k = true := newB_iff.2 ⟨by decide, h0, h1, by rw [red_zero]; exact Nat.zero_le _⟩
  exact ⟨hb, by rw [newV_of hb, red_zero]; rfl⟩
theorem dmul_zero {x : Dw} (h : x.ok) : dMulB x .zero = true ∧ dMulV x .zero = .zero := by
  have hn := new_zero (k := x.e + Dw.zero.e) (by show 0 ≤ x.e + 0; have := h.2; omega) (by show x.e + 0 ≤ 120; have := h.2; omega)
  have hm : x.n.mul Dw.zero.n = .zero := mul_zeroZ x.n
  have hb : dMulB x .zero = true := dMulB_iff.2 ⟨h, zero_ok, mulB_iff.2 ⟨h.1, by decide, by rw [hm]; decide⟩, by rw [hm]; exact hn.1⟩
  exact ⟨hb, by rw [dMulV_of hb, hm]; exact hn.2⟩
theorem dzero_mul {x : Dw} (h : x.ok) : dMulB .zero x = true ∧ dMulV .zero x = .zero := by
  rw [dMulB_comm x .zero, dMulV_comm x .zero]
  exact dmul_zero h
theorem dadd_zeroK {s : Dw} (h : s.ok) : dAddB s .zero = true ∧ dAddV s .zero = s := by
  have ht : topE s .zero = s.e := by
    have := h.2
    unfold topE
    show (if (0 : Int) < s.e then s.e else 0) = s.e
    split <;> omega
  have ha : numA s .zero = s.n := by unfold numA; rw [ht, Int.sub_self]; rfl
  have hb : numB s .zero = .zero := by unfold numB; exact rootN_zero _
  have hs := newV_self h
  have e : dAddB s .zero = true := dAddB_iff.2 ⟨h, zero_ok, by rw [ht, Int.sub_self]; rfl, upB_zero _, by rw [ha, hb]; exact addB_iff.2 ⟨h.1, by decide, by rw [add_zeroZ]; exact h.1⟩, by rw [ha, hb, add_zeroZ, ht]; exact hs.1⟩
  exact ⟨e, by rw [dAddV_of e, ha, hb, add_zeroZ, ht]; exact hs.2⟩
theorem mrow_sum : ∀ (l : List (Dw × Dw)) (s : Dw), s.ok → (∀ p ∈ l, p.1.ok ∧ p.2.ok) → mrow s l = if l.all (fun p => dMulB p.1 p.2) then sumD s (l.map fun p => dMulV p.1 p.2) else none
  | [], s, _, _ => rfl
  | p :: l, s, hs, hl => by
    have hp := hl p (List.mem_cons_self ..)
    have hl' := fun q hq => hl q (List.mem_cons_of_mem _ hq)
    rw [mrow]
    simp only [List.all_cons, List.map_cons, sumD]
    by_cases hz : p.1 = .zero ∨ p.2 = .zero
    · have hm : dMulB p.1 p.2 = true ∧ dMulV p.1 p.2 = .zero := by
        rcases hz with h | h
        · rw [h]; exact dzero_mul hp.2
        · rw [h]; exact dmul_zero hp.1
      rw [if_pos hz, hm.1, hm.2, (dadd_zeroK hs).1, (dadd_zeroK hs).2, mrow_sum l s hs hl']
      simp only [Bool.true_and, if_true]
    · rw [if_neg hz]
      cases hb : dMulB p.1 p.2
      · simp
      · cases ha : dAddB s (dMulV p.1 p.2)
        · simp
        · rw [mrow_sum l _ (dAddV_ok ha) hl']
          simp only [Bool.true_and, Bool.and_self, if_true]
theorem row_sum {a b : List Dw} (ha : ∀ x ∈ a, x.ok) (hb : ∀ x ∈ b, x.ok) : rowO a b = if cmbB dMulB a b then sumD .zero (cmbL dMulV dMulB a b) else none := by
  have h := mrow_sum (a.zip b) .zero zero_ok fun p hp => ⟨ha _ (List.of_mem_zip hp).1, hb _ (List.of_mem_zip hp).2⟩
  unfold rowO
  rw [h]
  by_cases hc : cmbB dMulB a b = true
  · rw [if_pos (show (a.zip b).all (fun p => dMulB p.1 p.2) = true from hc), if_pos hc, cmbL, if_pos hc]
  · rw [if_neg (show ¬ (a.zip b).all (fun p => dMulB p.1 p.2) = true from hc), if_neg hc]
theorem eb_cmbM (a b : List Dw) : Eb (cmbL dMulV dMulB a b) := by
  intro y hy
  unfold cmbL at hy
  split at hy
  · obtain ⟨p, -, rfl⟩ := List.mem_map.1 hy
    exact mul_eb _ _
  · cases hy
theorem len_cmbM (V : Dw → Dw → Dw) (T : Dw → Dw → Bool) (a b : List Dw) : (cmbL V T a b).length ≤ b.length := by
  unfold cmbL
  split
  · rw [List.length_map, List.length_zip]; omega
  · exact Nat.zero_le _
end Go.Proofs.Ytggjbpgibdpflaa
namespace Go.Proofs.Ytggjbpgibdpflaa
open Go.RowKit
theorem stB_2 {l : List Dw} (h : stB l = true) : l.length = 2 ∨ l.length = 4 ∨ l.length = 8 ∨ l.length = 16 := qc_len (stB_iff.1 h).2
theorem zip_rep : ∀ (l : List Dw) (x : Dw), l.zip (List.replicate l.length x) = l.map fun y => (y, x)
  | [], _ => rfl
  | y :: l, x => by rw [List.length_cons, List.replicate_succ, List.zip_cons_cons, zip_rep l x]; rfl
theorem cmb_scale {l : List Dw} {x : Dw} (h : stB l = true) : cmbB dMulB l (List.replicate l.length x) = scaleB l x ∧ cmbL dMulV dMulB l (List.replicate l.length x) = scaleL l x := by
  have e : cmbB dMulB l (List.replicate l.length x) = scaleB l x := by
    unfold cmbB scaleB
    rw [zip_rep, h, List.all_map]; rfl
  refine ⟨e, ?_⟩
  unfold cmbL scaleL
  rw [e, zip_rep, List.map_map]; rfl
theorem cmb_add {a b : List Dw} (ha : stB a = true) (hb : stB b = true) (hl : a.length = b.length) : cmbB dAddB a b = addSB a b ∧ cmbL dAddV dAddB a b = addSL a b := by
  have e : cmbB dAddB a b = addSB a b := by
    unfold cmbB addSB
    rw [ha, hb, decide_eq_true hl]; rfl
  exact ⟨e, by unfold cmbL addSL; rw [e]⟩
theorem eb_rep {n : Nat} {x : Dw} (h : EB x) : Eb (List.replicate n x) := fun y hy => by rw [List.eq_of_mem_replicate hy]; exact h
theorem DSl.lit {w : World} {g : Nat} {x : Dw} (h : w.heap[g]? = some (.cells #[.int .i64 x.n.a, .int .i64 x.n.b, .int .i64 x.n.c, .int .i64 x.n.d, .int .i64 x.e] 60 (0, 0))) : DSl w g (.slice (some ⟨g, 0, none⟩) 1 1) [x] :=
  ⟨_, 1, rfl, Nat.le_refl _, fun _ => ⟨g, rfl, Nat.le_refl _, _, h, rfl⟩⟩
attribute [local irreducible] World.cell?
set_option maxRecDepth 100000 in
set_option maxHeartbeats 1600000 in
theorem iscale (B : Nat) (v : Value) (l : List Dw) (x : Dw) (w : World) (hv : DSl w B v l) (he : Eb l) (hm : l.length ≤ 1048576) (x0 : -9223372036854775808 ≤ x.e) (x1 : x.e ≤ 9223372036854775807) :
    Calls Try.prog 65 #[v, (.agg #[.int .i64 x.n.a, .int .i64 x.n.b, .int .i64 x.n.c, .int .i64 x.n.d, .int .i64 x.e])] w fun e w' => (∃ u, e = .returned (.tuple #[u, .bool (scaleB l x)]) ∧ DSl w' w.heap.size u (scaleL l x)) ∧ Below w.heap.size w w' := by
  have Hr0 := Lib.hid (heap_alloc_new w (.cells #[.int .i64 x.n.a, .int .i64 x.n.b, .int .i64 x.n.c, .int .i64 x.n.d, .int .i64 x.e] 60))
  have Hb0 := Lib.hid (show Below w.heap.size w (w.alloc (.cells #[.int .i64 x.n.a, .int .i64 x.n.b, .int .i64 x.n.c, .int .i64 x.n.d, .int .i64 x.e] 60)) by go_grown)
  have Hv0 := Lib.hid (hv.below ((Below.refl _ _).alloc (Nat.le_refl _) (.cells #[.int .i64 x.n.a, .int .i64 x.n.b, .int .i64 x.n.c, .int .i64 x.n.d, .int .i64 x.e] 60)))
  have H1 := Lib.hid (ivalidSt B v l (w.alloc (.cells #[.int .i64 x.n.a, .int .i64 x.n.b, .int .i64 x.n.c, .int .i64 x.n.d, .int .i64 x.e] 60)) Hv0.out he hm)
  cases hst : stB l with
  | false =>
    rw [hst] at H1
    have hS : scaleB l x = false := by unfold scaleB; rw [hst]; rfl
    rw [hS, show scaleL l x = [] from if_neg (by rw [hS]; decide)]
    clear he hm hst hS hv
    go_enter Try.func65, Try.ntmps65
    go_wp2_with fail
    refine (H1.out).mono ?_
    rintro e w1 ⟨rfl, hb1⟩
    have Hb1 := Lib.hid (below_nx Hb0.out hb1)
    clear hb1
    go_wp2_with fail
    go_returns
    exact ⟨⟨_, rfl, DSl.nil⟩, Hb1.out⟩
  | true =>
    rw [hst] at H1
    have hc := cmb_scale (x := x) hst
    have H2 := Lib.hid (stB_2 hst)
    have hl16 := stB_len hst
    have HC := Lib.hid (fun (W : World) (C : Nat) (u r : Value) (h1 : DSl W B u l) (h2 : DSl W C r (List.replicate l.length x)) => icmbMul B C u r l _ W h1 h2 he (eb_rep (n := l.length) (x := x) ⟨x0, x1⟩) (by simp) (by simpa using hl16))
    simp only [hc.1, hc.2] at HC
    generalize scaleB l x = SB at *
    generalize scaleL l x = SL at *
    obtain ⟨p, cap, rfl, hcap, -⟩ := hv
    clear he hm hst hc x0 x1
    go_enter Try.func65, Try.ntmps65
    go_wp2_with fail
    refine (H1.out).mono ?_
    rintro e w1 ⟨rfl, hb1⟩
    have hr1 := below_blk hb1 (lt_of_block Hr0.out) Hr0.out
    have zg1 := lt_of_block hr1
    have Hb1 := Lib.hid (below_nx Hb0.out hb1)
    have hs1 := Hb1.out.size
    have Hv2 := Lib.hid ((Hv0.out.below hb1).below ((Below.refl _ _).alloc (Nat.le_refl _) (.cells #[.int .i64 x.n.a, .int .i64 x.n.b, .int .i64 x.n.c, .int .i64 x.n.d, .int .i64 x.e] 60)))
    obtain ⟨c0, c1, c2, c3, c4⟩ := blk_cells5 hr1
    have Hb2 := Lib.hid (Hb1.out.alloc hs1 (.cells #[.int .i64 x.n.a, .int .i64 x.n.b, .int .i64 x.n.c, .int .i64 x.n.d, .int .i64 x.e] 60))
    have HR := Lib.hid (fun n hn => islRep x w1.heap.size _ n (w1.alloc (.cells #[.int .i64 x.n.a, .int .i64 x.n.b, .int .i64 x.n.c, .int .i64 x.n.d, .int .i64 x.e] 60)) (DSl.lit (heap_alloc_new w1 (.cells #[.int .i64 x.n.a, .int .i64 x.n.b, .int .i64 x.n.c, .int .i64 x.n.d, .int .i64 x.e] 60))) hn)
    clear hb1 hr1
    go_wp2_with fail
    refine (HR.out _ H2.out).mono ?_
    rintro e w3 ⟨r, rfl, hd3, hb3⟩
    have Hd3 := Lib.hid hd3
    have Hv3 := Lib.hid (Hv2.out.below hb3)
    have Hb3 := Lib.hid (below_nx Hb2.out hb3)
    have hs3 := Hb3.out.size
    clear hd3 hb3
    go_wp2_with fail
    refine (HC.out _ _ _ _ Hv3.out Hd3.out).mono ?_
    rintro e w4 ⟨⟨u, rfl, hd4⟩, hb4⟩
    have Hd4 := Lib.hid (hd4.mono (C := w.heap.size) hs3)
    have Hb4 := Lib.hid (below_nx Hb3.out hb4)
    clear hd4 hb4
    go_wp2_with fail
    go_returns
    exact ⟨⟨_, rfl, Hd4.out⟩, Hb4.out⟩
theorem iscaleC (C B : Nat) (v : Value) (l : List Dw) (x : Dw) (w : World) (hv : DSl w B v l) (he : Eb l) (hm : l.length ≤ 1048576) (x0 : -9223372036854775808 ≤ x.e) (x1 : x.e ≤ 9223372036854775807) (hC : C ≤ w.heap.size) :
    Calls Try.prog 65 #[v, (.agg #[.int .i64 x.n.a, .int .i64 x.n.b, .int .i64 x.n.c, .int .i64 x.n.d, .int .i64 x.e])] w fun e w' => (∃ u, e = .returned (.tuple #[u, .bool (scaleB l x)]) ∧ DSl w' C u (scaleL l x)) ∧ Below w.heap.size w w' := by
  refine (iscale B v l x w hv he hm x0 x1).mono ?_
  rintro e w1 ⟨⟨u, rfl, hd⟩, hb⟩
  exact ⟨⟨u, rfl, hd.mono hC⟩, hb⟩
set_option maxRecDepth 100000 in
set_option maxHeartbeats 1600000 in
theorem iaddSt (B C : Nat) (v u : Value) (a b : List Dw) (w : World) (hv : DSl w B v a) (hu : DSl w C u b) (ha : Eb a) (hb : Eb b) (hm : a.length ≤ 1048576) (hm' : b.length ≤ 1048576) :
    Calls Try.prog 53 #[v, u] w fun e w' => (∃ r, e = .returned (.tuple #[r, .bool (addSB a b)]) ∧ DSl w' w.heap.size r (addSL a b)) ∧ Below w.heap.size w w' := by
  have H1 := Lib.hid (iareSt B C v u a b w hv hu ha hb hm hm')
  cases hT : (stB a && stB b && decide (a.length = b.length)) with
  | false =>
    rw [hT] at H1
    have hS : addSB a b = false := by unfold addSB; rw [hT]; rfl
    rw [hS, show addSL a b = [] from if_neg (by rw [hS]; decide)]
    clear ha hb hm hm' hT hS hv hu
    go_enter Try.func53, Try.ntmps53
    go_wp2_with fail
    refine (H1.out).mono ?_
    rintro e w1 ⟨rfl, hb1⟩
    have Hb1 := Lib.hid hb1
    clear hb1
    go_wp2_with fail
    go_returns
    exact ⟨⟨_, rfl, DSl.nil⟩, Hb1.out⟩
  | true =>
    rw [hT] at H1
    obtain ⟨⟨h1, h2⟩, h3⟩ : (stB a = true ∧ stB b = true) ∧ a.length = b.length := by simpa using hT
    have hc := cmb_add h1 h2 h3
    have HC := Lib.hid (fun (W : World) (h4 : DSl W B v a) (h5 : DSl W C u b) => icmbAdd B C v u a b W h4 h5 ha hb h3 (stB_len h2))
    simp only [hc.1, hc.2] at HC
    have Hv := Lib.hid hv
    have Hu := Lib.hid hu
    generalize addSB a b = SB at *
    generalize addSL a b = SL at *
    clear ha hb hm hm' hT h1 h2 h3 hc hv hu
    go_enter Try.func53, Try.ntmps53
    go_wp2_with fail
    refine (H1.out).mono ?_
    rintro e w1 ⟨rfl, hb1⟩
    have Hb1 := Lib.hid hb1
    have Hv1 := Lib.hid (Hv.out.below hb1)
    have Hu1 := Lib.hid (Hu.out.below hb1)
    have hs1 := hb1.size
    clear hb1
    go_wp2_with fail
    refine (HC.out _ Hv1.out Hu1.out).mono ?_
    rintro e w4 ⟨⟨r, rfl, hd4⟩, hb4⟩
    have Hd4 := Lib.hid (hd4.mono (C := w.heap.size) hs1)
    have Hb4 := Lib.hid (below_nx Hb1.out hb4)
    clear hd4 hb4
    go_wp2_with fail
    go_returns
    exact ⟨⟨_, rfl, Hd4.out⟩, Hb4.out⟩
theorem inn_sum : ∀ (l : List (Dw × Dw)) (s : Dw), inn s l = if l.all (fun p => mulCB p.1 p.2) then sumD s (l.map fun p => mulCV p.1 p.2) else none
  | [], s => rfl
  | p :: l, s => by
    rw [inn, inn_sum l]
    simp only [List.all_cons, List.map_cons, sumD]
    show (if mulCB p.1 p.2 && dAddB s (mulCV p.1 p.2) then (if l.all (fun p => mulCB p.1 p.2) then sumD (dAddV s (mulCV p.1 p.2)) (l.map fun p => mulCV p.1 p.2) else none) else none) = _
    cases mulCB p.1 p.2 <;> cases dAddB s (mulCV p.1 p.2) <;> cases l.all (fun p => mulCB p.1 p.2) <;> simp
theorem inn_cmb {a b : List Dw} (ha : stB a = true) (hb : stB b = true) (hl : a.length = b.length) : innO a b = if cmbB mulCB a b then sumD .zero (cmbL mulCV mulCB a b) else none := by
  unfold innO
  rw [ha, hb, decide_eq_true hl]
  simp only [Bool.and_self, if_true, inn_sum]
  by_cases h : cmbB mulCB a b = true
  · rw [if_pos (show (a.zip b).all (fun p => mulCB p.1 p.2) = true from h), if_pos h, cmbL, if_pos h]
  · rw [if_neg (show ¬ (a.zip b).all (fun p => mulCB p.1 p.2) = true from h), if_neg h]
theorem eb_cmb (a b : List Dw) : Eb (cmbL mulCV mulCB a b) := by
  intro y hy
  unfold cmbL at hy
  split at hy
  · obtain ⟨p, -, rfl⟩ := List.mem_map.1 hy
    exact mul_eb _ _
  · cases hy
theorem len_cmb (V : Dw → Dw → Dw) (T : Dw → Dw → Bool) (a b : List Dw) : (cmbL V T a b).length ≤ b.length := by
  unfold cmbL
  split
  · rw [List.length_map, List.length_zip]; omega
  · exact Nat.zero_le _
set_option maxRecDepth 100000 in
set_option maxHeartbeats 3200000 in
theorem iinner_yes (B C : Nat) (v u : Value) (a b : List Dw) (w : World) (hv : DSl w B v a) (hu : DSl w C u b) (ha : Eb a) (hb : Eb b) (h1 : stB a = true) (h2 : stB b = true) (h3 : a.length = b.length) :
    Calls Try.prog 55 #[v, u] w fun e w' => e = .returned (.tuple #[(.agg #[.int .i64 (innV a b).n.a, .int .i64 (innV a b).n.b, .int .i64 (innV a b).n.c, .int .i64 (innV a b).n.d, .int .i64 (innV a b).e]), .bool (innB a b)]) ∧ Below w.heap.size w w' := by
  have hl16 := stB_len h2
  have H1 := Lib.hid (fun W (hv : DSl W B v a) (hu : DSl W C u b) => iareSt B C v u a b W hv hu ha hb (by omega) (by omega))
  simp only [h1, h2, decide_eq_true h3, Bool.and_self] at H1
  have HC := Lib.hid (fun (W : World) (h4 : DSl W B v a) (h5 : DSl W C u b) => icmbCj B C v u a b W h4 h5 ha hb h3 hl16)
  have HO := Lib.hid (inn_cmb h1 h2 h3)
  have HV := Lib.hid (show innV a b = (innO a b).getD .zero from rfl)
  have HT := Lib.hid (show innB a b = (innO a b).isSome from rfl)
  have Hv := Lib.hid (hv.below ((Below.refl _ _).alloc (Nat.le_refl _) (.cells #[.int .i64 0, .int .i64 0, .int .i64 0, .int .i64 0, .int .i64 0] 60)))
  have Hu := Lib.hid (hu.below ((Below.refl _ _).alloc (Nat.le_refl _) (.cells #[.int .i64 0, .int .i64 0, .int .i64 0, .int .i64 0, .int .i64 0] 60)))
  have Hr0 := Lib.hid (heap_alloc_new w (.cells #[.int .i64 0, .int .i64 0, .int .i64 0, .int .i64 0, .int .i64 0] 60))
  have Hb0 := Lib.hid (show Below w.heap.size w (w.alloc (.cells #[.int .i64 0, .int .i64 0, .int .i64 0, .int .i64 0, .int .i64 0] 60)) by go_grown)
  have HE := Lib.hid (eb_cmb a b)
  have hlen := Nat.le_trans (len_cmb mulCV mulCB a b) hl16
  generalize innV a b = V at *
  generalize innB a b = T at *
  generalize innO a b = O at *
  generalize cmbL mulCV mulCB a b = P at *
  generalize cmbB mulCB a b = Q at *
  clear ha hb h1 h2 h3 hl16 hv hu
  go_enter Try.func55, Try.ntmps55
  go_wp2_with fail
  refine (H1.out _ Hv.out Hu.out).mono ?_
  rintro e w1 ⟨rfl, hb1⟩
  have Hr1 := Lib.hid (below_blk hb1 (lt_of_block Hr0.out) Hr0.out)
  have Hb1 := Lib.hid (below_nx Hb0.out hb1)
  have Hv1 := Lib.hid (Hv.out.below hb1)
  have Hu1 := Lib.hid (Hu.out.below hb1)
  clear hb1
  go_wp2_with fail
  refine (HC.out _ Hv1.out Hu1.out).mono ?_
  rintro e w2 ⟨⟨r, rfl, hd2⟩, hb2⟩
  have Hr2 := Lib.hid (below_blk hb2 (lt_of_block Hr1.out) Hr1.out)
  have Hb2 := Lib.hid (below_nx Hb1.out hb2)
  have hs2 := Hb2.out.size
  have hz2 := lt_of_block Hr2.out
  clear hb2
  cases Q with
  | false =>
    have hO : O = none := HO.out
    subst hO
    obtain rfl : V = .zero := HV.out
    obtain rfl : T = false := HT.out
    obtain ⟨e0, e1, e2, e3, e4⟩ := blk_cells5 Hr2.out
    have f1 := fun o => free_at Hr2.out o
    clear hd2
    go_wp2_with fail
    obtain ⟨k0, k1, k2, k3, k4⟩ := blk_cells5 (set5_at (u0 := .int .i64 0) (u1 := .int .i64 0) (u2 := .int .i64 0) (u3 := .int .i64 0) (u4 := .int .i64 0) Hr2.out)
    refine bodyPost_ret (v := .tuple #[(.agg #[.int .i64 Dw.zero.n.a, .int .i64 Dw.zero.n.b, .int .i64 Dw.zero.n.c, .int .i64 Dw.zero.n.d, .int .i64 Dw.zero.e]), .bool false]) (by simp only [results, Try.results55]; simp [go_sem, k0, k1, k2, k3, k4, Dw.zero, Zw.zero]) rfl ⟨rfl, ?_⟩
    have := Hb2.out
    go_grown
  | true =>
    have hO : O = sumD .zero P := HO.out
    subst hO
    have HS := Lib.hid (isumOf _ r P w2 hd2 HE.out hlen)
    rw [← HV.out, ← HT.out] at HS
    clear hd2
    go_wp2_with fail
    refine (HS.out).mono ?_
    rintro e w3 ⟨rfl, hb3⟩
    have Hr3 := Lib.hid (below_blk hb3 (lt_of_block Hr2.out) Hr2.out)
    have Hb3 := Lib.hid (below_nx Hb2.out hb3)
    have hs3 := Hb3.out.size
    have hz3 := lt_of_block Hr3.out
    obtain ⟨e0, e1, e2, e3, e4⟩ := blk_cells5 Hr3.out
    have f1 := fun o => free_at Hr3.out o
    clear hb3
    go_wp2_with fail
    obtain ⟨k0, k1, k2, k3, k4⟩ := blk_cells5 (set5_at (u0 := .int .i64 V.n.a) (u1 := .int .i64 V.n.b) (u2 := .int .i64 V.n.c) (u3 := .int .i64 V.n.d) (u4 := .int .i64 V.e) Hr3.out)
    refine bodyPost_ret (v := .tuple #[(.agg #[.int .i64 V.n.a, .int .i64 V.n.b, .int .i64 V.n.c, .int .i64 V.n.d, .int .i64 V.e]), .bool T]) (by simp only [results, Try.results55]; simp [go_sem, k0, k1, k2, k3, k4]) rfl ⟨rfl, ?_⟩
    have := Hb3.out
    go_grown
set_option maxRecDepth 100000 in
set_option maxHeartbeats 1600000 in
theorem iinner_no (B C : Nat) (v u : Value) (a b : List Dw) (w : World) (hv : DSl w B v a) (hu : DSl w C u b) (ha : Eb a) (hb : Eb b) (hm : a.length ≤ 1048576) (hm' : b.length ≤ 1048576) (hT : (stB a && stB b && decide (a.length = b.length)) = false) :
    Calls Try.prog 55 #[v, u] w fun e w' => e = .returned (.tuple #[(.agg #[.int .i64 Dw.zero.n.a, .int .i64 Dw.zero.n.b, .int .i64 Dw.zero.n.c, .int .i64 Dw.zero.n.d, .int .i64 Dw.zero.e]), .bool false]) ∧ Below w.heap.size w w' := by
  have H1 := Lib.hid (fun W (hv : DSl W B v a) (hu : DSl W C u b) => iareSt B C v u a b W hv hu ha hb hm hm')
  simp only [hT] at H1
  have Hv := Lib.hid (hv.below ((Below.refl _ _).alloc (Nat.le_refl _) (.cells #[.int .i64 0, .int .i64 0, .int .i64 0, .int .i64 0, .int .i64 0] 60)))
  have Hu := Lib.hid (hu.below ((Below.refl _ _).alloc (Nat.le_refl _) (.cells #[.int .i64 0, .int .i64 0, .int .i64 0, .int .i64 0, .int .i64 0] 60)))
  have Hr0 := Lib.hid (heap_alloc_new w (.cells #[.int .i64 0, .int .i64 0, .int .i64 0, .int .i64 0, .int .i64 0] 60))
  have Hb0 := Lib.hid (show Below w.heap.size w (w.alloc (.cells #[.int .i64 0, .int .i64 0, .int .i64 0, .int .i64 0, .int .i64 0] 60)) by go_grown)
  clear ha hb hm hm' hT hv hu
  go_enter Try.func55, Try.ntmps55
  go_wp2_with fail
  refine (H1.out _ Hv.out Hu.out).mono ?_
  rintro e w1 ⟨rfl, hb1⟩
  have Hr1 := Lib.hid (below_blk hb1 (lt_of_block Hr0.out) Hr0.out)
  have Hb1 := Lib.hid (below_nx Hb0.out hb1)
  clear hb1
  obtain ⟨e0, e1, e2, e3, e4⟩ := blk_cells5 Hr1.out
  have f1 := fun o => free_at Hr1.out o
  have hzz := lt_of_block Hr1.out
  go_wp2_with fail
  obtain ⟨k0, k1, k2, k3, k4⟩ := blk_cells5 (set5_at (u0 := .int .i64 0) (u1 := .int .i64 0) (u2 := .int .i64 0) (u3 := .int .i64 0) (u4 := .int .i64 0) Hr1.out)
  refine bodyPost_ret (v := .tuple #[(.agg #[.int .i64 Dw.zero.n.a, .int .i64 Dw.zero.n.b, .int .i64 Dw.zero.n.c, .int .i64 Dw.zero.n.d, .int .i64 Dw.zero.e]), .bool false]) (by simp only [results, Try.results55]; simp [go_sem, k0, k1, k2, k3, k4, Dw.zero, Zw.zero]) rfl ⟨rfl, ?_⟩
  have := Hb1.out
  go_grown
theorem iinner (B C : Nat) (v u : Value) (a b : List Dw) (w : World) (hv : DSl w B v a) (hu : DSl w C u b) (ha : Eb a) (hb : Eb b) (hm : a.length ≤ 1048576) (hm' : b.length ≤ 1048576) :
    Calls Try.prog 55 #[v, u] w fun e w' => e = .returned (.tuple #[(.agg #[.int .i64 (innV a b).n.a, .int .i64 (innV a b).n.b, .int .i64 (innV a b).n.c, .int .i64 (innV a b).n.d, .int .i64 (innV a b).e]), .bool (innB a b)]) ∧ Below w.heap.size w w' := by
  cases hT : (stB a && stB b && decide (a.length = b.length)) with
  | false =>
    have h : innO a b = none := by unfold innO; rw [hT]; rfl
    rw [show innV a b = .zero by unfold innV; rw [h]; rfl, show innB a b = false by unfold innB; rw [h]; rfl]
    exact iinner_no B C v u a b w hv hu ha hb hm hm' hT
  | true =>
    obtain ⟨⟨h1, h2⟩, h3⟩ : (stB a = true ∧ stB b = true) ∧ a.length = b.length := by simpa using hT
    exact iinner_yes B C v u a b w hv hu ha hb h1 h2 h3
theorem iphase6 (i : Int) (w : World) (h0 : -9223372036854775808 ≤ i) (h1 : i ≤ 9223372036854775807) : Calls Try.prog 67 #[.int .i64 i] w fun e w' => e = .returned (.agg #[.int .i64 (dPh i).n.a, .int .i64 (dPh i).n.b, .int .i64 (dPh i).n.c, .int .i64 (dPh i).n.d, .int .i64 (dPh i).e]) ∧ Below w.heap.size w w' := iphase i w h0 h1
end Go.Proofs.Ytggjbpgibdpflaa
namespace Go.Proofs.Ytggjbpgibdpflaa
end Go.Proofs.Ytggjbpgibdpflaa
