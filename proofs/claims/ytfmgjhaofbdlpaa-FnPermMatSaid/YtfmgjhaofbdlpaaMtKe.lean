/- The program's AdjointMatrix and IsUnitary. -/
import Derived.Test.YtfmgjhaofbdlpaaMtKc
import Derived.Test.YtfmgjhaofbdlpaaBaseB17
import Derived.Test.YtfmgjhaofbdlpaaBaseB11
namespace Go.Proofs.Ytfmgjhaofbdlpaa
open Go.RowKit
theorem Mid.next {B C : Nat} {w w1 w2 : World} (h : Mid B C w w1) (hb : Below w1.heap.size w1 w2) (hB : B ≤ w1.heap.size) : Mid B C w w2 :=
  ⟨h.1.trans (hb.mono hB), fun b hc hl => (hb.block b (Nat.lt_of_lt_of_le hl h.1.size)).trans (h.2 b hc hl)⟩
theorem adjM_get {M : List (List Dw)} (h : mtB M = true) {j : Nat} (hj : j < M.length) : (adjM M)[j]? = some ((col M j).map dConjV) := by
  rw [adjM_yes h, List.getElem?_map, List.getElem?_range hj]; rfl
attribute [local irreducible] World.cell?
set_option maxRecDepth 100000 in
set_option maxHeartbeats 6400000 in
theorem iadj_yes (B C : Nat) (v : Value) (M : List (List Dw)) (w : World) (hv : DSM w B C v M) (he : EbM M) (hM : mtB M = true) (hn : M.length ≤ 1048576) (hm : amps M ≤ 1048576) :
    Calls Try.prog 29 #[v] w fun e w' => ∃ u, e = .returned u ∧ DSM w' w.heap.size w'.heap.size u (adjM M) ∧ Below w.heap.size w w' := by
  have hlen := mtB_len hM
  have H1 := Lib.hid (ivalidMt B C v M w hv he hn hm)
  rw [hM] at H1
  have H2 := Lib.hid (fun W (h : DSM W B C v M) => itrans B C v M W h (fun r hr => by rw [(mt_rows hM r hr).1]; exact Nat.le_refl _) hn)
  have Hv := Lib.hid hv
  have HX := Lib.hid (fun (j : Nat) (hj : j < M.length) => adjM_get hM hj)
  have HY := Lib.hid (fun (j : Nat) (hj : j < M.length) => colsM_get (L := M) hj)
  have HXl := Lib.hid (adjM_len hM)
  have HYl := Lib.hid (colsM_len M)
  have HL := Lib.hid (fun (j : Nat) => col_len M j)
  have HE := Lib.hid (fun (j : Nat) (hj : j < M.length) => ok_Eb (stB_iff.1 (col_st hM hj)).1)
  generalize adjM M = X at *
  generalize colsM M = Y at *
  clear he hM hm
  obtain ⟨a, cap, rfl, hcap, -⟩ := hv
  go_enter Try.func29, Try.ntmps29
  go_wp2_with fail
  refine (H1.out).mono ?_
  rintro e w1 ⟨rfl, hb1⟩
  have Hb1 := Lib.hid hb1
  have Hv1 := Lib.hid (Hv.out.below hb1)
  have hs1 := hb1.size
  clear hb1
  go_wp2_with fail
  refine (H2.out _ Hv1.out).mono ?_
  rintro e w2 ⟨c, rfl, hdc, hb2⟩
  have Hb2 := Lib.hid (Hb1.out.trans (hb2.mono hs1))
  have hs12 := hb2.size
  obtain ⟨ca, cc, rfl, hcc, hcr⟩ := hdc
  have Hcr := Lib.hid hcr
  rw [HYl.out] at hcc ⊢
  clear hb2 hcr Hv1 H1 H2
  go_wp2_with fail
  go_loopg [15] M.length (fun n i wr => ∃ j : Nat, n = M.length - j ∧ j ≤ M.length ∧ i = .int .i64 j ∧ Hid (0 < M.length → ∃ g, ca = some ⟨g, 0, none⟩ ∧ w1.heap.size ≤ g ∧ MRow wr w1.heap.size w2.heap.size g (X.take j ++ Y.drop j)) ∧ Hid (Below w.heap.size w wr) ∧ w2.heap.size ≤ wr.heap.size)
  case atStart => exact ⟨0, rfl, Nat.zero_le _, rfl, Lib.hid (fun h0 => by obtain ⟨g, e, h1, h2, h3⟩ := Hcr.out (by rw [HYl.out]; exact h0); exact ⟨g, e, h1, by simpa using h3⟩), Hb2, Nat.le_refl _⟩
  case round =>
    obtain ⟨j, rfl, hj, rfl, Hrow, Hb, hsz⟩ := hrel
    obtain ⟨wo, hwo⟩ : ∃ wo, wo = wr := ⟨wr, rfl⟩
    subst hwo
    have hs := Hb.out.size
    by_cases hlt : j < M.length
    · obtain ⟨g, rfl, hg1, hrow⟩ := Hrow.out (by omega)
      have hjX : j < X.length := by have := HXl.out; omega
      have hgl := hrow.lt
      obtain ⟨p, pc, b, c, c0, hB, hbc, hC, hd, Hk⟩ := hrow.turn (mix_at hjX (HY.out j hlt))
      have hCw : c ≤ w2.heap.size := by omega
      have Hst := Lib.hid (mix_set (X := X) (Y := Y) (by rw [HXl.out, HYl.out]) (HX.out j hlt))
      have Hk2 := Lib.hid Hk
      have HEj := Lib.hid (HE.out j hlt)
      have hcl := HL.out j
      have Hd := Lib.hid hd
      clear hrow Hk hd
      generalize col M j = r at *
      rw [hcl] at c0 Hd Hk2
      have Hcl := Lib.hid hcl
      clear hcl
      go_wp2_with fail
      go_loopg [21] M.length (fun n i wi => ∃ k : Nat, n = M.length - k ∧ k ≤ M.length ∧ i = .int .i64 k ∧ Hid (DSc wi b c (.slice p M.length pc) ((r.map dConjV).take k ++ r.drop k)) ∧ Hid (Mid b c wo wi))
      case atStart => exact ⟨0, rfl, Nat.zero_le _, rfl, by simpa using Hd, Mid.refl _ _ _⟩
      case round =>
        obtain ⟨k, rfl, hk, rfl, Hdi, Hmi⟩ := hrel
        have hsi := Hmi.out.1.size
        by_cases hlk : k < M.length
        · obtain ⟨x, hx⟩ : ∃ x, r[k]? = some x := ⟨r[k]'(by have := Hcl.out; omega), List.getElem?_eq_getElem _⟩
          have hml : ((r.map dConjV).take k ++ r.drop k).length = M.length := by have := Hcl.out; simp; omega
          obtain ⟨p', pc', hpe, hpc, hpr⟩ := Hdi.out
          injection hpe with hpe1 hpe2 hpe3
          subst hpe1 hpe3
          obtain ⟨g2, rfl, hgB, hgC, hri⟩ := hpr (by omega)
          have hpc2 : M.length ≤ pc := by rw [← hml]; exact hpc
          have hgl2 := hri.lt
          obtain ⟨x0, x1, x2, x3, x4⟩ := hri.cells (turn_at (f := dConjV) hx)
          have hex := HEj.out x (List.mem_of_getElem? hx)
          have Hx := Lib.hid (fun w => iconjD_any x w hex.1 hex.2)
          have Hri := Lib.hid (show DRow (wr.alloc (.cells #[.int .i64 x.n.a, .int .i64 x.n.b, .int .i64 x.n.c, .int .i64 x.n.d, .int .i64 x.e] 63)) g2 _ from hri.alloc (.cells #[.int .i64 x.n.a, .int .i64 x.n.b, .int .i64 x.n.c, .int .i64 x.n.d, .int .i64 x.e] 63))
          have Hma := Lib.hid (Hmi.out.next ((Below.refl _ _).alloc (Nat.le_refl _) (.cells #[.int .i64 x.n.a, .int .i64 x.n.b, .int .i64 x.n.c, .int .i64 x.n.d, .int .i64 x.e] 63)) (by omega))
          clear hri hpr hpe2 hex
          go_wp2_with fail
          refine (Hx.out _).mono ?_
          rintro e wj ⟨rfl, hbj⟩
          have hrj := Hri.out.below hbj Hri.out.lt
          obtain ⟨d0, d1, d2, d3, d4⟩ := hrj.cells (turn_at (f := dConjV) hx)
          have f1 := fun o => hrj.free o
          have hgj := hrj.lt
          have hr3 := hrj.put k (by omega) (dConjV x)
          rw [turn_set hx] at hr3
          have hml3 : ((r.map dConjV).take (k + 1) ++ r.drop (k + 1)).length = M.length := by have := Hcl.out; simp; omega
          have Hr3 := Lib.hid hr3
          have hwj := Hma.out.1.size
          have Hmj := Lib.hid ((((((Hma.out.next hbj (by omega)).set hgB hgC (o := k * 5) (.int .i64 (dConjV x).n.a)).set hgB hgC (o := k * 5 + 1) (.int .i64 (dConjV x).n.b)).set hgB hgC (o := k * 5 + 2) (.int .i64 (dConjV x).n.c)).set hgB hgC (o := k * 5 + 3) (.int .i64 (dConjV x).n.d)).set hgB hgC (o := k * 5 + 4) (.int .i64 (dConjV x).e))
          clear x0 x1 x2 x3 x4 hr3 hrj hbj Hri Hma Hmi Hx hx Hdi hml
          generalize dConjV x = y at *
          go_wp2_with fail
          go_roundg (M.length - (k + 1))
          case measure => omega
          case rel => exact ⟨k + 1, rfl, by omega, by go_num, Lib.hid ⟨_, _, by rw [hml3], by rw [hml3]; exact hpc2, fun _ => ⟨g2, rfl, hgB, hgC, Hr3.out⟩⟩, Hmj⟩
        · obtain rfl : k = M.length := by omega
          have hdi := Hdi.out
          rw [List.take_of_length_le (by rw [List.length_map, Hcl.out]; exact Nat.le_refl _), List.drop_of_length_le (by rw [Hcl.out]; exact Nat.le_refl _), List.append_nil] at hdi
          have hrow2 := Hk2.out wr (r.map dConjV) (by rw [List.length_map]; exact Hcl.out) hdi Hmi.out
          rw [Hst.out] at hrow2
          have Hrow2 := Lib.hid hrow2
          have Hb3 := Lib.hid (Hb.out.trans (Hmi.out.1.mono (by omega)))
          clear hdi hrow2 Hdi Hmi Hk2 Hrow Hb Hd
          go_wp2_with fail
          go_roundg (M.length - (j + 1))
          case measure => omega
          case rel => exact ⟨j + 1, rfl, by omega, by go_num, Lib.hid (fun _ => ⟨g, rfl, hg1, Hrow2.out⟩), Hb3, by omega⟩
    · obtain rfl : j = M.length := by omega
      have hrow := Hrow.out
      have Hd := Lib.hid (show DSM wo w.heap.size wo.heap.size (.slice ca M.length cc) X from ⟨_, _, by rw [HXl.out], by rw [HXl.out]; exact hcc, fun h0 => by
        rw [HXl.out] at h0
        obtain ⟨g, e, h1, h2⟩ := hrow h0
        refine ⟨g, e, by omega, h2.lt, ?_⟩
        rw [List.take_of_length_le (by rw [HXl.out]; exact Nat.le_refl _), List.drop_of_length_le (by rw [HYl.out]; exact Nat.le_refl _), List.append_nil] at h2
        exact h2.mono hs1 hsz⟩)
      clear hrow Hrow
      go_wp2_with fail
      go_ret
      exact ⟨_, rfl, Hd.out, Hb.out⟩
theorem iadj (B C : Nat) (v : Value) (M : List (List Dw)) (w : World) (hv : DSM w B C v M) (he : EbM M) (hn : M.length ≤ 1048576) (hm : amps M ≤ 1048576) :
    Calls Try.prog 29 #[v] w fun e w' => ∃ u, e = .returned u ∧ DSM w' w.heap.size w'.heap.size u (adjM M) ∧ Below w.heap.size w w' := by
  cases hM : mtB M with
  | true => exact iadj_yes B C v M w hv he hM hn hm
  | false =>
    rw [adjM_no hM]
    have H1 := Lib.hid (ivalidMt B C v M w hv he hn hm)
    rw [hM] at H1
    clear hM he
    obtain ⟨a, cap, rfl, hcap, -⟩ := hv
    go_enter Try.func29, Try.ntmps29
    go_wp2_with fail
    refine (H1.out).mono ?_
    rintro e w1 ⟨rfl, hb1⟩
    have Hb1 := Lib.hid hb1
    clear hb1
    go_wp2_with fail
    go_ret
    exact ⟨_, rfl, DSM.nil, Hb1.out⟩
theorem adjM_ebM (M : List (List Dw)) : EbM (adjM M) := by
  cases h : mtB M with
  | false => rw [adjM_no h]; intro r hr; cases hr
  | true =>
    rw [adjM_yes h]
    intro r hr x hx
    obtain ⟨i, -, rfl⟩ := List.mem_map.1 hr
    obtain ⟨y, -, rfl⟩ := List.mem_map.1 hx
    exact eb_conj y
theorem mulMB_mt {A B : List (List Dw)} (h : mulMB A B = true) : mtB B = true := by
  unfold mulMB at h
  simp only [Bool.and_eq_true] at h
  exact h.1.1.2
set_option maxRecDepth 100000 in
set_option maxHeartbeats 3200000 in
theorem iuni (B C : Nat) (v : Value) (M : List (List Dw)) (w : World) (hv : DSM w B C v M) (he : EbM M) (hn : M.length ≤ 1048576) (hm : amps M ≤ 1048576) :
    Calls Try.prog 28 #[v] w fun e w' => e = .returned (.bool (uniB M)) ∧ Below w.heap.size w w' := by
  have Hv := Lib.hid hv
  have H2 := Lib.hid (iadj B C v M w hv he hn hm)
  have ha := adjM_amps M
  have H3 := Lib.hid (fun P Q u W (h : DSM W P Q u (adjM M)) (h' : DSM W B C v M) => imulM P Q B C u v (adjM M) M W h h' (adjM_ebM M) he (by omega) hn (by omega) hm)
  have hmu := mulM_amps (adjM M) M
  have hid := idM_amps (qc M.length)
  have H4 := Lib.hid (fun P Q R S u x W (h : DSM W P Q u (mulM (adjM M) M)) (h' : DSM W R S x (idM (qc M.length))) => iequalMt P Q R S u x (mulM (adjM M) M) (idM (qc M.length)) W h h' (by omega) (by omega) (by omega) (by omega))
  have hqr := qc_range M.length
  have H5 := Lib.hid (fun W => iident (qc M.length) W (by omega) (by omega))
  have hU : uniB M = (mulMB (adjM M) M && decide (mulM (adjM M) M = idM (qc M.length))) := by
    unfold uniB
    cases h : mulMB (adjM M) M with
    | false => simp
    | true => rw [mulMB_mt h]; rfl
  have HMt := Lib.hid (fun (h : mulMB (adjM M) M = true) => mulMB_mt h)
  obtain ⟨T, hT⟩ : ∃ T, T = uniB M := ⟨_, rfl⟩
  rw [← hT]
  have HT := Lib.hid (hT.trans hU)
  have Hq := Lib.hid (fun a cap W => iqubits0 a M.length cap W)
  clear hT hU ha hmu hid he hm
  generalize mulM (adjM M) M = X at *
  generalize mulMB (adjM M) M = t at *
  generalize adjM M = Y at *
  generalize idM (qc M.length) = I at *
  generalize qc M.length = n at *
  obtain ⟨a, cap, rfl, hcap, hg⟩ := hv
  have Hg := Lib.hid hg
  clear hg
  go_enter Try.func28, Try.ntmps28
  go_wp2_with fail
  refine (H2.out).mono ?_
  rintro e w2 ⟨y, rfl, hdy, hb2⟩
  have Hb2 := Lib.hid hb2
  have Hm := Lib.hid (H3.out _ _ y w2 hdy (Hv.out.below hb2))
  clear hb2 hdy H3
  go_wp2_with fail
  refine (Hm.out).mono ?_
  rintro e w3 ⟨⟨x, rfl, hdx⟩, hb3⟩
  have Hb3 := Lib.hid (Hb2.out.trans (hb3.mono Hb2.out.size))
  have Hdx := Lib.hid hdx
  clear hb3 hdx Hb2 Hm
  cases t with
  | false =>
    obtain rfl : T = false := HT.out
    go_wp2_with fail
    go_returns
    exact ⟨rfl, Hb3.out⟩
  | true =>
    have hM := HMt.out rfl
    have h0 := (mtB_iff.1 hM).1
    obtain ⟨r, hr⟩ : ∃ r, M[0]? = some r := ⟨M[0], List.getElem?_eq_getElem h0⟩
    have hrl := (mtB_row hM hr).1
    obtain ⟨g, rfl, hgB, hgC, hrow⟩ := Hg.out h0
    have r3 := hrow.block (Hb3.out.block _ hrow.lt) fun k _ _ hk => Hb3.out.block k hk
    obtain ⟨p, pc, c0, -⟩ := r3.cell hr
    rw [hrl] at c0
    have hgl := r3.lt
    clear hM r3 hrow hr hrl
    go_wp2_with fail
    refine (Hq.out _ _ _).mono ?_
    rintro e w4 ⟨rfl, rfl⟩
    go_wp2_with fail
    refine (H5.out _).mono ?_
    rintro e w5 ⟨z, rfl, hdz, hb5⟩
    have Hb5 := Lib.hid (Hb3.out.trans (hb5.mono Hb3.out.size))
    have He := Lib.hid (H4.out _ _ _ _ x z w5 (Hdx.out.below hb5) hdz)
    clear hb5 hdz Hb3
    have hTe : T = decide (X = I) := HT.out
    rw [← hTe] at He
    clear hTe
    go_wp2_with fail
    refine (He.out).mono ?_
    rintro e w6 ⟨rfl, hb6⟩
    have Hb6 := Lib.hid (Hb5.out.trans (hb6.mono Hb5.out.size))
    clear hb6
    go_wp2_with fail
    go_returns
    exact ⟨rfl, Hb6.out⟩
end Go.Proofs.Ytfmgjhaofbdlpaa
