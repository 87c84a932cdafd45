/- The model's ControlledMatrix. -/
import Derived.Test.YtlmiebeffdcfhaaGreatUBaseB15
import Derived.Test.YtlmiebeffdcfhaaGreatUBaseC02
import Derived.Test.YtlmiebeffdcfhaaGreatUBaseC03
namespace Go.Proofs.YtlmiebeffdcfhaaGreat
open Go.RowKit
attribute [local irreducible] World.cell?
set_option maxRecDepth 100000 in
set_option maxHeartbeats 1600000 in
theorem sctM_n1 (B C : Nat) (q : Int) (v : Value) (M : List (List Dw)) (w : World) (hv : DSM w B C v M) (hn : M.length ≤ 1048576) (hm : amps M ≤ 1048576) (hM : mtB M = false) :
    Calls Tryz.prog 20 #[.int .i64 q, v] w fun e w' => ∃ u, e = .returned (.tuple #[u, .bool false]) ∧ DSM w' w.heap.size w'.heap.size u [] ∧ Below w.heap.size w w' := by
  have H1 := Lib.hid (fun W (h : DSM W B C v M) => svalidMt B C v M W h hn hm)
  rw [hM] at H1
  have Hv := Lib.hid hv
  clear hM hm
  obtain ⟨a, cap, rfl, hcap, -⟩ := hv
  go_enter Tryz.func20, Tryz.ntmps20
  go_wp2_with fail
  refine (H1.out _ Hv.out).mono ?_
  rintro e w1 ⟨rfl, hb1⟩
  have Hb1 := Lib.hid hb1
  have hs1 := hb1.size
  clear hb1
  go_wp2_with fail
  go_returns
  exact ⟨_, rfl, DSM.nil, Hb1.out.alloc hs1 _⟩
set_option maxRecDepth 100000 in
set_option maxHeartbeats 1600000 in
theorem sctM_n3 (B C : Nat) (q : Int) (v : Value) (M : List (List Dw)) (w : World) (hv : DSM w B C v M) (hn : M.length ≤ 1048576) (hm : amps M ≤ 1048576) (hM : mtB M = true) (h1 : ¬ (0 ≤ q ∧ q ≤ qc M.length - 1)) :
    Calls Tryz.prog 20 #[.int .i64 q, v] w fun e w' => ∃ u, e = .returned (.tuple #[u, .bool false]) ∧ DSM w' w.heap.size w'.heap.size u [] ∧ Below w.heap.size w w' := by
  have H1 := Lib.hid (fun W (h : DSM W B C v M) => svalidMt B C v M W h hn hm)
  rw [hM] at H1
  have Hv := Lib.hid hv
  have hlen := mtB_len hM
  have hqc := mtB_qc hM
  have hM0 := (mtB_iff.1 hM).1
  obtain ⟨a, cap, rfl, hcap, hg⟩ := id hv
  obtain ⟨g, rfl, hgB, hgC, hrow⟩ := hg hM0
  obtain ⟨r0, hr0⟩ : ∃ r, M[0]? = some r := ⟨M[0], List.getElem?_eq_getElem hM0⟩
  obtain ⟨p0, pc0, c00, -⟩ := hrow.cell hr0
  rw [(mtB_row hM hr0).1] at c00
  have hgw := hrow.lt
  have HC0 := Lib.hid (fun W (h : Below w.heap.size w W) => (⟨cell_below c00 h hgw, Nat.lt_of_lt_of_le hgw h.size⟩ : W.cell? ⟨g, 0, none⟩ = some (.slice p0 M.length pc0) ∧ g < W.heap.size))
  have hM0I : (0 : Int) < (M.length : Int) := by omega
  have HQ := Lib.hid (fun a cap W => squbits a M.length cap W)
  have HL := Lib.hid (fun W => lin_no q 0 (qc M.length - 1) W h1)
  have hqr := qc_range M.length
  clear hM hm hrow hv hr0 c00 h1
  generalize qc M.length = n at *
  go_enter Tryz.func20, Tryz.ntmps20
  go_wp2_with fail
  refine (H1.out _ Hv.out).mono ?_
  rintro e w1 ⟨rfl, hb1⟩
  have Hb1 := Lib.hid hb1
  obtain ⟨c1, hg1⟩ := HC0.out _ hb1
  have hs1 := hb1.size
  clear hb1
  go_wp2_with fail
  refine (HQ.out _ _ _).mono ?_
  rintro e w2 ⟨rfl, rfl⟩
  go_wp2_with fail
  refine (HL.out _).mono ?_
  rintro e w2 ⟨rfl, rfl⟩
  go_wp2_with fail
  go_returns
  exact ⟨_, rfl, DSM.nil, Hb1.out.alloc hs1 _⟩
set_option maxRecDepth 100000 in
set_option maxHeartbeats 6400000 in
theorem sctM_y (B C : Nat) (q : Int) (v : Value) (M : List (List Dw)) (w : World) (hv : DSM w B C v M) (hn : M.length ≤ 1048576) (hm : amps M ≤ 1048576) (hM : mtB M = true) (h0 : 0 ≤ q) (h1 : q < qc M.length) (T : Bool) (R : List (List Dw)) (hT : T = kpB q.toNat M) (hRt : T = true → R = ctV q.toNat M) (hRf : T = false → R = []) :
    Calls Tryz.prog 20 #[.int .i64 q, v] w fun e w' => ∃ u, e = .returned (.tuple #[u, .bool T]) ∧ DSM w' w.heap.size w'.heap.size u R ∧ Below w.heap.size w w' := by
  have H1 := Lib.hid (fun W (h : DSM W B C v M) => svalidMt B C v M W h hn hm)
  rw [hM] at H1
  have Hv := Lib.hid hv
  have hlen := mtB_len hM
  have hqc := mtB_qc hM
  have hM0 := (mtB_iff.1 hM).1
  obtain ⟨a, cap, rfl, hcap, hg⟩ := id hv
  obtain ⟨g, rfl, hgB, hgC, hrow⟩ := hg hM0
  obtain ⟨r0, hr0⟩ : ∃ r, M[0]? = some r := ⟨M[0], List.getElem?_eq_getElem hM0⟩
  obtain ⟨p0, pc0, c00, -⟩ := hrow.cell hr0
  rw [(mtB_row hM hr0).1] at c00
  have hgw := hrow.lt
  have HC0 := Lib.hid (fun W (h : Below w.heap.size w W) => (⟨cell_below c00 h hgw, Nat.lt_of_lt_of_le hgw h.size⟩ : W.cell? ⟨g, 0, none⟩ = some (.slice p0 M.length pc0) ∧ g < W.heap.size))
  have hM0I : (0 : Int) < (M.length : Int) := by omega
  have HQ := Lib.hid (fun a cap W => squbits a M.length cap W)
  have HL := Lib.hid (fun W => lin_yes q 0 (qc M.length - 1) W h0 (by omega))
  have hqr := qc_range M.length
  obtain ⟨k, rfl⟩ : ∃ k : Nat, q = k := ⟨q.toNat, by omega⟩
  rw [Int.toNat_natCast] at hT hRt
  have HT := Lib.hid hT
  have HRt := Lib.hid hRt
  have HRf := Lib.hid hRf
  have hk4 : k < 4 := by omega
  have HI := Lib.hid (fun W => sident (qc M.length) W)
  have HYr := Lib.hid (fun (j : Nat) (hj : j < M.length) => idM_row hqc hj)
  have HXr := Lib.hid (fun (j : Nat) (hj : j < M.length) => ctV_row (q := k) hj)
  have HYl := Lib.hid (idM_lenq hqc)
  have HXl := Lib.hid (ctV_len k M)
  have HRl := Lib.hid (fun (j : Nat) (r : List Dw) (h : M[j]? = some r) => (mtB_row hM h).1)
  have Hrow := Lib.hid hrow
  clear hM hm hrow hv hr0 c00 hT hRt hRf h0 h1
  generalize idM (qc M.length) = Y at *
  generalize hX : ctV k M = X at *
  clear hX
  generalize qc M.length = n at *
  go_enter Tryz.func20, Tryz.ntmps20
  go_wp2_with fail
  refine (H1.out _ Hv.out).mono ?_
  rintro e w1 ⟨rfl, hb1⟩
  have Hb1 := Lib.hid hb1
  obtain ⟨c1, hg1⟩ := HC0.out _ hb1
  clear hb1
  go_wp2_with fail
  refine (HQ.out _ _ _).mono ?_
  rintro e w2 ⟨rfl, rfl⟩
  go_wp2_with fail
  refine (HL.out _).mono ?_
  rintro e w3 ⟨rfl, rfl⟩
  go_wp2_with fail
  refine (HQ.out _ _ _).mono ?_
  rintro e w4 ⟨rfl, rfl⟩
  go_wp2_with fail
  refine (HI.out _).mono ?_
  rintro e w5 ⟨u, rfl, hu, hb5⟩
  have Hb5 := Lib.hid (below_nx Hb1.out hb5)
  have hs3 := Hb1.out.size
  have hs5 := hb5.size
  obtain ⟨ua, uc, rfl, huc, hur⟩ := hu
  rw [HYl.out] at huc ⊢
  obtain ⟨gu, rfl, hguB, hguC, hurow⟩ := hur (by rw [HYl.out]; exact hM0)
  have Hurow := Lib.hid hurow
  clear hb5 c1 hg1 hur hurow
  go_wp2_with fail
  go_loopg [7] M.length (fun m i wr => ∃ j : Nat, m = M.length - j ∧ j ≤ M.length ∧ i = .int .i64 j ∧ Hid (∀ m, m < j → kpR k M m = true) ∧ Hid (MRow wr w1.heap.size w5.heap.size gu (X.take j ++ Y.drop j)) ∧ Hid (Below w.heap.size w wr) ∧ w5.heap.size ≤ wr.heap.size)
  case atStart => exact ⟨0, rfl, Nat.zero_le _, rfl, Lib.hid (fun m hm => absurd hm (by omega)), by simpa using Hurow, Hb5, Nat.le_refl _⟩
  case round =>
    obtain ⟨j, rfl, hj, rfl, Hn, Hur, Hb, hsz⟩ := hrel
    obtain ⟨wo, hwo⟩ : ∃ wo, wo = wr := ⟨wr, rfl⟩
    subst hwo
    have hs := Hb.out.size
    by_cases hlt : j < M.length
    · obtain ⟨r, hr⟩ : ∃ r, M[j]? = some r := ⟨M[j], List.getElem?_eq_getElem hlt⟩
      have hrl := HRl.out j r hr
      obtain ⟨ps, psc, s00, hsd⟩ := Hrow.out.cell hr
      obtain ⟨_, _, hpe, hpc, hpr⟩ := hsd
      injection hpe with hpe1 hpe2 hpe3
      subst hpe1 hpe3
      rw [hrl] at s00 hpc
      have Hs00 := Lib.hid s00
      have Hpr := Lib.hid hpr
      have Hr2 := Lib.hid hr
      have Hrl := Lib.hid hrl
      have hZl : (X.take j ++ Y.drop j).length = M.length := by rw [mixL_len (by rw [HXl.out, HYl.out]) (by rw [HYl.out]; exact hj), HYl.out]
      have Hst := Lib.hid (mixL_set (A := X) (B := Y) (by rw [HXl.out, HYl.out]) (HXr.out j hlt))
      have HZ0 := Lib.hid (show (X.take j ++ Y.drop j).set j (idRow M.length j) = X.take j ++ Y.drop j by
        refine List.ext_getElem? fun i => ?_
        by_cases e : i = j
        · subst e; rw [List.getElem?_set_self (by omega), mixL_at (by rw [HXl.out, HYl.out]) (HYr.out i hlt)]
        · rw [List.getElem?_set_ne (fun h => e h.symm)])
      have HZl := Lib.hid hZl
      have hml : (ctRow k M j).length = (idRow M.length j).length := by rw [ctRow_len, idRow_len]
      have HA := Lib.hid (fun (t : Nat) (x : Dw) (ht : t < M.length) (hx : r[t]? = some x) (hb : bitN t k = true) => ctRow_yes (q := k) (i := j) ht hr hx hb)
      have HAn := Lib.hid (fun (t : Nat) (ht : t < M.length) (hb : bitN t k = false) => ctRow_no (q := k) (M := M) (i := j) ht hb)
      have HBn := Lib.hid (fun (t : Nat) (ht : t < M.length) => idRow_at (N := M.length) (i := j) ht hlt)
      have hAl := ctRow_len k M j
      have hBl := idRow_len M.length j
      generalize X.take j ++ Y.drop j = Z at *
      generalize ctRow k M j = A at *
      generalize idRow M.length j = D at *
      have Hml := Lib.hid hml
      have HAl := Lib.hid hAl
      have HBl := Lib.hid hBl
      have Hur0 := Lib.hid (show MRow wo w1.heap.size w5.heap.size gu (Z.set j D) by rw [HZ0.out]; exact Hur.out)
      clear hr hrl s00 hpe2 hpr hZl hml hAl hBl
      go_wp2_with fail
      go_loopg [8] M.length (fun m i wi => ∃ t : Nat, m = M.length - t ∧ t ≤ M.length ∧ i = .int .i64 t ∧ Hid (∀ m, m < t → kpC k M j m = true) ∧ Hid (MRow wi w1.heap.size w5.heap.size gu (Z.set j (A.take t ++ D.drop t))) ∧ Hid (Below w.heap.size w wi) ∧ w5.heap.size ≤ wi.heap.size)
      case atStart => exact ⟨0, rfl, Nat.zero_le _, rfl, Lib.hid (fun m hm => absurd hm (by omega)), by simpa using Hur0, Hb, hsz⟩
      case round =>
        obtain ⟨t, rfl, ht, rfl, Hk, Hui, Hbi, hszi⟩ := hrel
        have hsi := Hbi.out.size
        by_cases hlk : t < M.length
        · obtain ⟨x, hx⟩ : ∃ x, r[t]? = some x := ⟨r[t]'(by rw [Hrl.out]; exact hlk), List.getElem?_eq_getElem _⟩
          obtain ⟨g2, rfl, hg2B, hg2C, hri⟩ := Hpr.out (by rw [Hrl.out]; omega)
          have r2 := hri.block (Hbi.out.block _ hri.lt)
          have hgl2 := r2.lt
          obtain ⟨x0, x1, x2, x3, x4⟩ := r2.cells hx
          have s0 := cell_below Hs00.out Hbi.out hgw
          have hgs := Nat.lt_of_lt_of_le hgw hsi
          have Hx := Lib.hid hx
          have Hkp := Lib.hid (kpC_at (q := k) Hr2.out hx)
          have hxor := xorZ_bits (i := j) (k := t) (q := k) (by omega) (by omega) hk4
          have hbit := bitZ_bits (i := t) (q := k) (by omega) hk4
          clear hx r2 hri
          have hk8 : kpC k M j t = true → Hid (∀ m, m < t + 1 → kpC k M j m = true) := fun h => Lib.hid (fun m hm => by
            by_cases e : m = t
            · subst e; exact h
            · exact Hk.out m (by omega))
          by_cases hbb : (bitN j k == bitN t k) = true
          · have Hk8 := hk8 (by rw [Hkp.out, hbb]; rfl)
            have hxor0 : bits .and .i64 (bits .xor .i64 (j : Int) (t : Int) / 2 ^ k) 1 = 0 := by rw [hxor, hbb]; rfl
            clear hk8 hxor hbb
            cases hb : bitN t k with
            | false =>
              have hsame := mixL_same (A := A) (B := D) Hml.out (HAn.out t hlk hb) (HBn.out t hlk)
              have Hu7 := Lib.hid (show MRow wr w1.heap.size w5.heap.size gu (Z.set j (A.take (t + 1) ++ D.drop (t + 1))) by rw [hsame]; exact Hui.out)
              have hbit0 : bits .and .i64 ((t : Int) / 2 ^ k) 1 = 0 := by rw [hbit]; unfold bitZ; rw [hb]; rfl
              clear hb hsame hbit
              go_wp2_with fail
              go_roundg (M.length - (t + 1))
              case measure => omega
              case rel => exact ⟨t + 1, rfl, by omega, by go_num, Hk8, Hu7, Hbi, hszi⟩
            | true =>
              have hset := mixL_set (A := A) (B := D) Hml.out (HA.out t x hlk Hx.out hb)
              have hmlen : (A.take t ++ D.drop t).length = M.length := by rw [mixL_len Hml.out (by rw [HBl.out]; exact ht), HBl.out]
              obtain ⟨be, pe, e0, hbe, hbl, hR, hpe, hput⟩ := Hui.out.entry (j := j) (t := t) (r := A.take t ++ D.drop t) (List.getElem?_set_self (by rw [HZl.out]; exact hlt)) (by rw [hmlen]; exact hlk)
              rw [hmlen] at e0 hpe
              have hp := hput x
              rw [List.set_set, hset] at hp
              have Hp := Lib.hid hp
              have fB := fun o => hR.free o
              obtain ⟨z, hz⟩ : ∃ z, (A.take t ++ D.drop t)[t]? = some z := ⟨(A.take t ++ D.drop t)[t]'(by rw [hmlen]; exact hlk), List.getElem?_eq_getElem _⟩
              obtain ⟨z0, z1, z2, z3, z4⟩ := hR.cells hz
              have hbw : w.heap.size ≤ be := by omega
              have HB7 := Lib.hid (((((Hbi.out.setCell (p := ⟨be, t * 5, none⟩) hbw (.int .i64 x.n.a)).setCell (p := ⟨be, t * 5 + 1, none⟩) hbw (.int .i64 x.n.b)).setCell (p := ⟨be, t * 5 + 2, none⟩) hbw (.int .i64 x.n.c)).setCell (p := ⟨be, t * 5 + 3, none⟩) hbw (.int .i64 x.n.d)).setCell (p := ⟨be, t * 5 + 4, none⟩) hbw (.int .i64 x.e))
              have hgua := Hui.out.lt
              have hsz7 : w5.heap.size ≤ ((((((wr.setCell ⟨be, t * 5, none⟩ (.int .i64 x.n.a)).setCell ⟨be, t * 5 + 1, none⟩ (.int .i64 x.n.b)).setCell ⟨be, t * 5 + 2, none⟩ (.int .i64 x.n.c)).setCell ⟨be, t * 5 + 3, none⟩ (.int .i64 x.n.d)).setCell ⟨be, t * 5 + 4, none⟩ (.int .i64 x.e)).drew).heap.size := by simp [World.setCell, World.drew]; omega
              have Hz7 := Lib.hid hsz7
              have hbit1 : bits .and .i64 ((t : Int) / 2 ^ k) 1 = 1 := by rw [hbit]; unfold bitZ; rw [hb]; rfl
              clear hb hset hmlen hput hp hR hz hsz7 hbit
              go_wp2_with fail
              go_region
              all_goals
                go_wp2_with fail
                go_roundg (M.length - (t + 1))
                case measure => omega
                case rel => exact ⟨t + 1, rfl, by omega, by go_num, Hk8, Lib.hid (Hp.out.block rfl fun _ _ _ _ => rfl), Lib.hid HB7.out.drew, Hz7.out⟩
          · rw [Bool.not_eq_true] at hbb
            have hxor1 : bits .and .i64 (bits .xor .i64 (j : Int) (t : Int) / 2 ^ k) 1 = 1 := by rw [hxor, hbb]; rfl
            have hnx : ∀ W : World, (binOp .neq 70 (.agg #[.int .i64 x.n.a, .int .i64 x.n.b, .int .i64 x.n.c, .int .i64 x.n.d, .int .i64 x.e]) (.agg #[.int .i64 0, .int .i64 0, .int .i64 0, .int .i64 0, .int .i64 0])).run Tryz.prog W = .ok (.bool (!eqDB x .zero)) W := fun W => neD x .zero W
            have hkq : kpC k M j t = decide (x = .zero) := by rw [Hkp.out, hbb]; rfl
            clear hxor hbb
            by_cases hz : x = .zero
            · have Hk8 := hk8 (by rw [hkq, decide_eq_true hz])
              rw [eqDB_iff.2 hz] at hnx
              clear hk8 hkq hz
              cases hb : bitN t k with
              | false =>
                have hsame := mixL_same (A := A) (B := D) Hml.out (HAn.out t hlk hb) (HBn.out t hlk)
                have Hu7 := Lib.hid (show MRow wr w1.heap.size w5.heap.size gu (Z.set j (A.take (t + 1) ++ D.drop (t + 1))) by rw [hsame]; exact Hui.out)
                have hbit0 : bits .and .i64 ((t : Int) / 2 ^ k) 1 = 0 := by rw [hbit]; unfold bitZ; rw [hb]; rfl
                clear hb hsame hbit
                go_wp2_with fail
                go_roundg (M.length - (t + 1))
                case measure => omega
                case rel => exact ⟨t + 1, rfl, by omega, by go_num, Hk8, Hu7, Hbi, hszi⟩
              | true =>
                have hset := mixL_set (A := A) (B := D) Hml.out (HA.out t x hlk Hx.out hb)
                have hmlen : (A.take t ++ D.drop t).length = M.length := by rw [mixL_len Hml.out (by rw [HBl.out]; exact ht), HBl.out]
                obtain ⟨be, pe, e0, hbe, hbl, hR, hpe, hput⟩ := Hui.out.entry (j := j) (t := t) (r := A.take t ++ D.drop t) (List.getElem?_set_self (by rw [HZl.out]; exact hlt)) (by rw [hmlen]; exact hlk)
                rw [hmlen] at e0 hpe
                have hp := hput x
                rw [List.set_set, hset] at hp
                have Hp := Lib.hid hp
                have fB := fun o => hR.free o
                obtain ⟨z, hz⟩ : ∃ z, (A.take t ++ D.drop t)[t]? = some z := ⟨(A.take t ++ D.drop t)[t]'(by rw [hmlen]; exact hlk), List.getElem?_eq_getElem _⟩
                obtain ⟨z0, z1, z2, z3, z4⟩ := hR.cells hz
                have hbw : w.heap.size ≤ be := by omega
                have HB7 := Lib.hid (((((Hbi.out.setCell (p := ⟨be, t * 5, none⟩) hbw (.int .i64 x.n.a)).setCell (p := ⟨be, t * 5 + 1, none⟩) hbw (.int .i64 x.n.b)).setCell (p := ⟨be, t * 5 + 2, none⟩) hbw (.int .i64 x.n.c)).setCell (p := ⟨be, t * 5 + 3, none⟩) hbw (.int .i64 x.n.d)).setCell (p := ⟨be, t * 5 + 4, none⟩) hbw (.int .i64 x.e))
                have hgua := Hui.out.lt
                have hsz7 : w5.heap.size ≤ ((((((wr.setCell ⟨be, t * 5, none⟩ (.int .i64 x.n.a)).setCell ⟨be, t * 5 + 1, none⟩ (.int .i64 x.n.b)).setCell ⟨be, t * 5 + 2, none⟩ (.int .i64 x.n.c)).setCell ⟨be, t * 5 + 3, none⟩ (.int .i64 x.n.d)).setCell ⟨be, t * 5 + 4, none⟩ (.int .i64 x.e)).drew).heap.size := by simp [World.setCell, World.drew]; omega
                have Hz7 := Lib.hid hsz7
                have hbit1 : bits .and .i64 ((t : Int) / 2 ^ k) 1 = 1 := by rw [hbit]; unfold bitZ; rw [hb]; rfl
                clear hb hset hmlen hput hp hR hz hsz7 hbit
                go_wp2_with fail
                go_region
                all_goals
                  go_wp2_with fail
                  go_roundg (M.length - (t + 1))
                  case measure => omega
                  case rel => exact ⟨t + 1, rfl, by omega, by go_num, Hk8, Lib.hid (Hp.out.block rfl fun _ _ _ _ => rfl), Lib.hid HB7.out.drew, Hz7.out⟩
            · have hno : kpB k M = false := kpB_no hlt hlk (by rw [hkq, decide_eq_false hz])
              obtain rfl : T = false := HT.out.trans hno
              obtain rfl := HRf.out rfl
              rw [eqDB_no hz] at hnx
              clear hz hno hk8 hkq hbit
              go_wp2_with fail
              go_returns
              exact ⟨_, rfl, DSM.nil, Hbi.out.alloc hsi _⟩
        · obtain rfl : t = M.length := by omega
          have hu := Hui.out
          rw [List.take_of_length_le (by rw [HAl.out]; exact Nat.le_refl _), List.drop_of_length_le (by rw [HBl.out]; exact Nat.le_refl _), List.append_nil, Hst.out] at hu
          have Hu8 := Lib.hid hu
          have Hrow8 := Lib.hid (kpR_yes Hk.out)
          have Hn8 := Lib.hid (show ∀ m, m < j + 1 → kpR k M m = true from fun m hm => by
            by_cases e : m = j
            · subst e; exact Hrow8.out
            · exact Hn.out m (by omega))
          clear hu
          go_wp2_with fail
          go_roundg (M.length - (j + 1))
          case measure => omega
          case rel => exact ⟨j + 1, rfl, by omega, by go_num, Hn8, Hu8, Hbi, hszi⟩
    · obtain rfl : j = M.length := by omega
      have hT1 : T = true := HT.out.trans (kpB_yes Hn.out)
      obtain rfl := HRt.out hT1
      subst hT1
      have hu := Hur.out
      rw [List.take_of_length_le (by rw [HXl.out]; exact Nat.le_refl _), List.drop_of_length_le (by rw [HYl.out]; exact Nat.le_refl _), List.append_nil] at hu
      have HD := Lib.hid (show DSM wo w.heap.size wo.heap.size (.slice (some ⟨gu, 0, none⟩) M.length uc) R from ⟨_, _, by rw [HXl.out], by rw [HXl.out]; exact huc, fun _ => ⟨gu, rfl, by omega, hu.lt, hu.mono (by omega) hsz⟩⟩)
      clear hu
      go_wp2_with fail
      go_returns
      exact ⟨_, rfl, HD.out, Hb.out⟩
/-- ControlledMatrix. -/
theorem sctM (B C : Nat) (q : Int) (v : Value) (M : List (List Dw)) (w : World) (hv : DSM w B C v M) (hn : M.length ≤ 1048576) (hm : amps M ≤ 1048576) :
    Calls Tryz.prog 20 #[.int .i64 q, v] w fun e w' => ∃ u, e = .returned (.tuple #[u, .bool (ctMB q M)]) ∧ DSM w' w.heap.size w'.heap.size u (ctM q M) ∧ Below w.heap.size w w' := by
  have no : ctMB q M = false → ctM q M = [] := fun h => by unfold ctM; rw [h]; rfl
  cases hM : mtB M with
  | false =>
    have e : ctMB q M = false := by rw [ctMB_eq, hM]; rfl
    rw [e, no e]
    exact sctM_n1 B C q v M w hv hn hm hM
  | true =>
    by_cases h0 : 0 ≤ q ∧ q ≤ qc M.length - 1
    · have e : ctMB q M = kpB q.toNat M := by rw [ctMB_eq, hM, decide_eq_true h0]; rfl
      exact sctM_y B C q v M w hv hn hm hM h0.1 (by omega) _ _ e (fun h => by unfold ctM; rw [h]; rfl) no
    · have e : ctMB q M = false := by rw [ctMB_eq, decide_eq_false h0]; simp
      rw [e, no e]
      exact sctM_n3 B C q v M w hv hn hm hM h0
end Go.Proofs.YtlmiebeffdcfhaaGreat
