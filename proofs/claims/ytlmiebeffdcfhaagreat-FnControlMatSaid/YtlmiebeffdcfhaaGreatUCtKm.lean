/- The program's keepsQubit, ControlledMatrix. -/
import Derived.Test.YtlmiebeffdcfhaaGreatUMtKb
import Derived.Test.YtlmiebeffdcfhaaGreatUMtKc
import Derived.Test.YtlmiebeffdcfhaaGreatUBaseC02
import Derived.Test.YtlmiebeffdcfhaaGreatUBaseC08
import Derived.Test.YtlmiebeffdcfhaaGreatUBaseC03
namespace Go.Proofs.YtlmiebeffdcfhaaGreat
open Go.RowKit
attribute [local irreducible] World.cell?
set_option maxRecDepth 100000 in
set_option maxHeartbeats 800000 in
theorem ibitZ (i q : Nat) (w : World) (hi : i < 16) (hq : q < 4) :
    Calls Tryz.prog 42 #[.int .i64 (i : Int), .int .i64 (q : Int)] w fun e w' => e = .returned (.int .i64 (bitZ i q)) ∧ w = w' := by
  have h := ibitOf i q w (by omega)
  rw [bitZ_bits hi hq] at h
  exact h
set_option maxRecDepth 100000 in
set_option maxHeartbeats 3200000 in
theorem ikeeps (B C q : Nat) (v : Value) (M : List (List Dw)) (w : World) (hv : DSM w B C v M) (hM : mtB M = true) (hq : q < 4) :
    Calls Tryz.prog 40 #[.int .i64 (q : Int), v] w fun e w' => e = .returned (.bool (kpB q M)) ∧ Below w.heap.size w w' := by
  have hlen := mtB_len hM
  have HR := Lib.hid (fun (j : Nat) (r : List Dw) (h : M[j]? = some r) => (mtB_row hM h).1)
  obtain ⟨a, cap, rfl, hcap, hr⟩ := hv
  have Hr := Lib.hid hr
  clear hr hM
  obtain ⟨T, hT⟩ : ∃ T, T = kpB q M := ⟨_, rfl⟩
  rw [← hT]
  have HT := Lib.hid hT
  clear hT
  go_enter Tryz.func40, Tryz.ntmps40
  go_wp2_with fail
  go_loopg [11] M.length (fun n i wr => ∃ j : Nat, n = M.length - j ∧ j ≤ M.length ∧ i = .int .i64 j ∧ Hid (∀ m, m < j → kpR q M m = true) ∧ Hid (Below w.heap.size w wr))
  case atStart => exact ⟨0, rfl, Nat.zero_le _, rfl, Lib.hid (fun m hm => absurd hm (by omega)), Lib.hid (Below.refl _ _)⟩
  case round =>
    obtain ⟨j, rfl, hj, rfl, Hn, Hb⟩ := hrel
    obtain ⟨wo, hwo⟩ : ∃ wo, wo = wr := ⟨wr, rfl⟩
    subst hwo
    have hs := Hb.out.size
    by_cases hlt : j < M.length
    · obtain ⟨g, rfl, _, _, hrow⟩ := Hr.out (by omega)
      obtain ⟨r, hr⟩ : ∃ r, M[j]? = some r := ⟨M[j], List.getElem?_eq_getElem hlt⟩
      have r1 := hrow.block (Hb.out.block _ hrow.lt) fun k _ _ hk => Hb.out.block k hk
      obtain ⟨p, pc, c0, hd1⟩ := r1.cell hr
      have hrl := HR.out j r hr
      have Hr2 := Lib.hid hr
      obtain ⟨_, _, hpe, hpc, hpr⟩ := hd1
      injection hpe with hpe1 hpe2 hpe3
      subst hpe1 hpe3
      rw [hrl] at c0 hpc
      have Hrl := Lib.hid hrl
      have Hpr := Lib.hid hpr
      have hgl := r1.lt
      clear hr hrl hrow r1 hpe2 hpr
      go_wp2_with fail
      go_loopg [18] M.length (fun n i wi => ∃ k : Nat, n = M.length - k ∧ k ≤ M.length ∧ i = .int .i64 k ∧ Hid (∀ m, m < k → kpC q M j m = true) ∧ Hid (Below wo.heap.size wo wi))
      case atStart => exact ⟨0, rfl, Nat.zero_le _, rfl, Lib.hid (fun m hm => absurd hm (by omega)), Lib.hid (Below.refl _ _)⟩
      case round =>
        obtain ⟨k, rfl, hk, rfl, Hk, Hbi⟩ := hrel
        have hsi := Hbi.out.size
        by_cases hlk : k < M.length
        · obtain ⟨x, hx⟩ : ∃ x, r[k]? = some x := ⟨r[k]'(by rw [Hrl.out]; exact hlk), List.getElem?_eq_getElem _⟩
          obtain ⟨g2, rfl, hgB, hgC, hri⟩ := Hpr.out (by rw [Hrl.out]; omega)
          have r2 := hri.block (Hbi.out.block _ hri.lt)
          have hgl2 := r2.lt
          obtain ⟨x0, x1, x2, x3, x4⟩ := r2.cells hx
          have Hkp := Lib.hid (kpC_at (q := q) Hr2.out hx)
          have HX := Lib.hid (heap_alloc_new wr (.cells #[.int .i64 x.n.a, .int .i64 x.n.b, .int .i64 x.n.c, .int .i64 x.n.d, .int .i64 x.e] 70))
          have Hba := Lib.hid (Hbi.out.alloc hsi (.cells #[.int .i64 x.n.a, .int .i64 x.n.b, .int .i64 x.n.c, .int .i64 x.n.d, .int .i64 x.e] 70))
          have hbj := Lib.hid (fun W => ibitZ j q W (by omega) hq)
          have hbk := Lib.hid (fun W => ibitZ k q W (by omega) hq)
          have hne := bitZ_eq (i := j) (k := k) (q := q)
          have hxl := lt_of_block HX.out
          clear r2 hri hx
          go_wp2_with fail
          refine (hbj.out _).mono ?_
          rintro e w3 ⟨rfl, rfl⟩
          go_wp2_with fail
          refine (hbk.out _).mono ?_
          rintro e w4 ⟨rfl, rfl⟩
          by_cases hbb : (bitN j q == bitN k q) = true
          · have Hok := Lib.hid (show kpC q M j k = true by rw [Hkp.out, hbb]; rfl)
            rw [hbb] at hne
            generalize bitZ j q = y at *
            generalize bitZ k q = z at *
            have hne2 : (y != z) = false := hne
            clear hne hbb
            go_wp2_with fail
            go_roundg (M.length - (k + 1))
            case measure => omega
            case rel => exact ⟨k + 1, rfl, by omega, by go_num, Lib.hid (fun m hm => by
              by_cases e : m = k
              · subst e; exact Hok.out
              · exact Hk.out m (by omega)), Hba⟩
          · rw [Bool.not_eq_true] at hbb
            have Hkq := Lib.hid (show kpC q M j k = decide (x = .zero) by rw [Hkp.out, hbb]; rfl)
            rw [hbb] at hne
            generalize bitZ j q = y at *
            generalize bitZ k q = z at *
            have hne2 : (y != z) = true := hne
            clear hne hbb
            obtain ⟨y0, y1, y2, y3, y4⟩ := blk_cells5 HX.out
            have hnx : ∀ W : World, (binOp .neq 70 (.agg #[.int .i64 x.n.a, .int .i64 x.n.b, .int .i64 x.n.c, .int .i64 x.n.d, .int .i64 x.e]) (.agg #[.int .i64 0, .int .i64 0, .int .i64 0, .int .i64 0, .int .i64 0])).run Tryz.prog W = .ok (.bool (!eqDB x .zero)) W := fun W => neD x .zero W
            by_cases hz : x = .zero
            · have Hok := Lib.hid (show kpC q M j k = true by rw [Hkq.out, decide_eq_true hz])
              rw [eqDB_iff.2 hz] at hnx
              clear hz
              go_wp2_with fail
              go_roundg (M.length - (k + 1))
              case measure => omega
              case rel => exact ⟨k + 1, rfl, by omega, by go_num, Lib.hid (fun m hm => by
                by_cases e : m = k
                · subst e; exact Hok.out
                · exact Hk.out m (by omega)), Hba⟩
            · have hno : kpB q M = false := kpB_no hlt hlk (by rw [Hkq.out, decide_eq_false hz])
              obtain rfl : T = false := HT.out.trans hno
              rw [eqDB_no hz] at hnx
              clear hz hno
              go_wp2_with fail
              go_ret
              exact ⟨rfl, Hb.out.trans (Hba.out.mono hs)⟩
        · obtain rfl : k = M.length := by omega
          have Hrow := Lib.hid (kpR_yes Hk.out)
          have Hb3 := Lib.hid (Hb.out.trans (Hbi.out.mono hs))
          go_wp2_with fail
          go_roundg (M.length - (j + 1))
          case measure => omega
          case rel => exact ⟨j + 1, rfl, by omega, by go_num, Lib.hid (fun m hm => by
            by_cases e : m = j
            · subst e; exact Hrow.out
            · exact Hn.out m (by omega)), Hb3⟩
    · obtain rfl : j = M.length := by omega
      obtain rfl : T = true := HT.out.trans (kpB_yes Hn.out)
      go_wp2_with fail
      go_ret
      exact ⟨rfl, Hb.out⟩
set_option maxRecDepth 100000 in
set_option maxHeartbeats 1600000 in
theorem ictM_n1 (B C : Nat) (q : Int) (v : Value) (M : List (List Dw)) (w : World) (hv : DSM w B C v M) (he : EbM M) (hn : M.length ≤ 1048576) (hm : amps M ≤ 1048576) (hM : mtB M = false) :
    Calls Tryz.prog 12 #[.int .i64 q, v] w fun e w' => ∃ u, e = .returned (.tuple #[u, .bool false]) ∧ DSM w' w.heap.size w'.heap.size u [] ∧ Below w.heap.size w w' := by
  have H1 := Lib.hid (fun W (h : DSM W B C v M) => ivalidMt B C v M W h he hn hm)
  rw [hM] at H1
  have Hv := Lib.hid hv
  clear hM he hm
  obtain ⟨a, cap, rfl, hcap, -⟩ := hv
  go_enter Tryz.func12, Tryz.ntmps12
  go_wp2_with fail
  refine (H1.out _ Hv.out).mono ?_
  rintro e w1 ⟨rfl, hb1⟩
  have Hb1 := Lib.hid hb1
  clear hb1
  go_wp2_with fail
  go_returns
  exact ⟨_, rfl, DSM.nil, Hb1.out⟩
set_option maxRecDepth 100000 in
set_option maxHeartbeats 1600000 in
theorem ictM_n2 (B C : Nat) (q : Int) (v : Value) (M : List (List Dw)) (w : World) (hv : DSM w B C v M) (he : EbM M) (hn : M.length ≤ 1048576) (hm : amps M ≤ 1048576) (hM : mtB M = true) (h0 : q < 0) :
    Calls Tryz.prog 12 #[.int .i64 q, v] w fun e w' => ∃ u, e = .returned (.tuple #[u, .bool false]) ∧ DSM w' w.heap.size w'.heap.size u [] ∧ Below w.heap.size w w' := by
  have H1 := Lib.hid (fun W (h : DSM W B C v M) => ivalidMt B C v M W h he hn hm)
  rw [hM] at H1
  have Hv := Lib.hid hv
  clear hM he hm
  obtain ⟨a, cap, rfl, hcap, -⟩ := hv
  go_enter Tryz.func12, Tryz.ntmps12
  go_wp2_with fail
  refine (H1.out _ Hv.out).mono ?_
  rintro e w1 ⟨rfl, hb1⟩
  have Hb1 := Lib.hid hb1
  clear hb1
  go_wp2_with fail
  go_returns
  exact ⟨_, rfl, DSM.nil, Hb1.out⟩
set_option maxRecDepth 100000 in
set_option maxHeartbeats 1600000 in
theorem ictM_n3 (B C : Nat) (q : Int) (v : Value) (M : List (List Dw)) (w : World) (hv : DSM w B C v M) (he : EbM M) (hn : M.length ≤ 1048576) (hm : amps M ≤ 1048576) (hM : mtB M = true) (h0 : 0 ≤ q) (h1 : qc M.length ≤ q) :
    Calls Tryz.prog 12 #[.int .i64 q, v] w fun e w' => ∃ u, e = .returned (.tuple #[u, .bool false]) ∧ DSM w' w.heap.size w'.heap.size u [] ∧ Below w.heap.size w w' := by
  have H1 := Lib.hid (fun W (h : DSM W B C v M) => ivalidMt B C v M W h he hn hm)
  rw [hM] at H1
  have Hv := Lib.hid hv
  have hlen := mtB_len hM
  have hqc := mtB_qc hM
  have hM0 := (mtB_iff.1 hM).1
  obtain ⟨a, cap, rfl, hcap, hg⟩ := id hv
  obtain ⟨g, rfl, hgB, hgC, hrow⟩ := hg hM0
  obtain ⟨r0, hr0⟩ : ∃ r, M[0]? = some r := ⟨M[0], List.getElem?_eq_getElem hM0⟩
  obtain ⟨p0, pc0, c00, -⟩ := hrow.cell hr0
  rw [(mtB_row hM hr0).1] at c00
  have hgw := hrow.lt
  have HC0 := Lib.hid (fun W (h : Below w.heap.size w W) => (⟨cell_below c00 h hgw, Nat.lt_of_lt_of_le hgw h.size⟩ : W.cell? ⟨g, 0, none⟩ = some (.slice p0 M.length pc0) ∧ g < W.heap.size))
  have hM0I : (0 : Int) < (M.length : Int) := by omega
  have h0' : ¬ q < 0 := by omega
  have HQ := Lib.hid (fun a cap W => iqubits0 a M.length cap W)
  clear hM he hm hrow hv hr0 c00
  generalize qc M.length = n at *
  go_enter Tryz.func12, Tryz.ntmps12
  go_wp2_with fail
  refine (H1.out _ Hv.out).mono ?_
  rintro e w1 ⟨rfl, hb1⟩
  have Hb1 := Lib.hid hb1
  obtain ⟨c1, hg1⟩ := HC0.out _ hb1
  clear hb1
  go_wp2_with fail
  refine (HQ.out _ _ _).mono ?_
  rintro e w2 ⟨rfl, rfl⟩
  go_wp2_with fail
  go_returns
  exact ⟨_, rfl, DSM.nil, Hb1.out⟩
set_option maxRecDepth 100000 in
set_option maxHeartbeats 1600000 in
theorem ictM_n4 (B C : Nat) (q : Int) (v : Value) (M : List (List Dw)) (w : World) (hv : DSM w B C v M) (he : EbM M) (hn : M.length ≤ 1048576) (hm : amps M ≤ 1048576) (hM : mtB M = true) (h0 : 0 ≤ q) (h1 : q < qc M.length) (hK : kpB q.toNat M = false) :
    Calls Tryz.prog 12 #[.int .i64 q, v] w fun e w' => ∃ u, e = .returned (.tuple #[u, .bool false]) ∧ DSM w' w.heap.size w'.heap.size u [] ∧ Below w.heap.size w w' := by
  have H1 := Lib.hid (fun W (h : DSM W B C v M) => ivalidMt B C v M W h he hn hm)
  rw [hM] at H1
  have Hv := Lib.hid hv
  have hlen := mtB_len hM
  have hqc := mtB_qc hM
  have hM0 := (mtB_iff.1 hM).1
  obtain ⟨a, cap, rfl, hcap, hg⟩ := id hv
  obtain ⟨g, rfl, hgB, hgC, hrow⟩ := hg hM0
  obtain ⟨r0, hr0⟩ : ∃ r, M[0]? = some r := ⟨M[0], List.getElem?_eq_getElem hM0⟩
  obtain ⟨p0, pc0, c00, -⟩ := hrow.cell hr0
  rw [(mtB_row hM hr0).1] at c00
  have hgw := hrow.lt
  have HC0 := Lib.hid (fun W (h : Below w.heap.size w W) => (⟨cell_below c00 h hgw, Nat.lt_of_lt_of_le hgw h.size⟩ : W.cell? ⟨g, 0, none⟩ = some (.slice p0 M.length pc0) ∧ g < W.heap.size))
  have hM0I : (0 : Int) < (M.length : Int) := by omega
  have h0' : ¬ q < 0 := by omega
  have h1' : ¬ qc M.length ≤ q := by omega
  have HQ := Lib.hid (fun a cap W => iqubits0 a M.length cap W)
  have hqr := qc_range M.length
  obtain ⟨k, rfl⟩ : ∃ k : Nat, q = k := ⟨q.toNat, by omega⟩
  rw [Int.toNat_natCast] at hK
  have HK := Lib.hid (fun W (h : DSM W B C (.slice (some ⟨g, 0, none⟩) M.length cap) M) => ikeeps B C k _ M W h hM (by omega))
  rw [hK] at HK
  clear hM he hm hrow hv hr0 c00 hK
  generalize qc M.length = n at *
  go_enter Tryz.func12, Tryz.ntmps12
  go_wp2_with fail
  refine (H1.out _ Hv.out).mono ?_
  rintro e w1 ⟨rfl, hb1⟩
  have Hb1 := Lib.hid hb1
  obtain ⟨c1, hg1⟩ := HC0.out _ hb1
  clear hb1
  go_wp2_with fail
  refine (HQ.out _ _ _).mono ?_
  rintro e w2 ⟨rfl, rfl⟩
  go_wp2_with fail
  refine (HK.out _ (Hv.out.below Hb1.out)).mono ?_
  rintro e w3 ⟨rfl, hb3⟩
  have Hb3 := Lib.hid (below_nx Hb1.out hb3)
  clear hb3
  go_wp2_with fail
  go_returns
  exact ⟨_, rfl, DSM.nil, Hb3.out⟩
set_option maxRecDepth 100000 in
set_option maxHeartbeats 6400000 in
theorem ictM_y (B C : Nat) (q : Int) (v : Value) (M : List (List Dw)) (w : World) (hv : DSM w B C v M) (he : EbM M) (hn : M.length ≤ 1048576) (hm : amps M ≤ 1048576) (hM : mtB M = true) (h0 : 0 ≤ q) (h1 : q < qc M.length) (hK : kpB q.toNat M = true) :
    Calls Tryz.prog 12 #[.int .i64 q, v] w fun e w' => ∃ u, e = .returned (.tuple #[u, .bool true]) ∧ DSM w' w.heap.size w'.heap.size u (ctV q.toNat M) ∧ Below w.heap.size w w' := by
  have H1 := Lib.hid (fun W (h : DSM W B C v M) => ivalidMt B C v M W h he hn hm)
  rw [hM] at H1
  have Hv := Lib.hid hv
  have hlen := mtB_len hM
  have hqc := mtB_qc hM
  have hM0 := (mtB_iff.1 hM).1
  obtain ⟨a, cap, rfl, hcap, hg⟩ := id hv
  obtain ⟨g, rfl, hgB, hgC, hrow⟩ := hg hM0
  obtain ⟨r0, hr0⟩ : ∃ r, M[0]? = some r := ⟨M[0], List.getElem?_eq_getElem hM0⟩
  obtain ⟨p0, pc0, c00, -⟩ := hrow.cell hr0
  rw [(mtB_row hM hr0).1] at c00
  have hgw := hrow.lt
  have HC0 := Lib.hid (fun W (h : Below w.heap.size w W) => (⟨cell_below c00 h hgw, Nat.lt_of_lt_of_le hgw h.size⟩ : W.cell? ⟨g, 0, none⟩ = some (.slice p0 M.length pc0) ∧ g < W.heap.size))
  have hM0I : (0 : Int) < (M.length : Int) := by omega
  have h0' : ¬ q < 0 := by omega
  have h1' : ¬ qc M.length ≤ q := by omega
  have HQ := Lib.hid (fun a cap W => iqubits0 a M.length cap W)
  have hqr := qc_range M.length
  obtain ⟨k, rfl⟩ : ∃ k : Nat, q = k := ⟨q.toNat, by omega⟩
  rw [Int.toNat_natCast] at hK ⊢
  have hk4 : k < 4 := by omega
  have HK := Lib.hid (fun W (h : DSM W B C (.slice (some ⟨g, 0, none⟩) M.length cap) M) => ikeeps B C k _ M W h hM hk4)
  rw [hK] at HK
  have HI := Lib.hid (fun W => iident (qc M.length) W (by omega) (by omega))
  have HYr := Lib.hid (fun (j : Nat) (hj : j < M.length) => idM_row hqc hj)
  have HXr := Lib.hid (fun (j : Nat) (hj : j < M.length) => ctV_row (q := k) hj)
  have HYl := Lib.hid (idM_lenq hqc)
  have HXl := Lib.hid (ctV_len k M)
  have HRl := Lib.hid (fun (j : Nat) (r : List Dw) (h : M[j]? = some r) => (mtB_row hM h).1)
  have Hrow := Lib.hid hrow
  clear hM he hm hrow hv hr0 c00 hK
  generalize idM (qc M.length) = Y at *
  generalize hX : ctV k M = X at *
  clear hX
  generalize qc M.length = n at *
  go_enter Tryz.func12, Tryz.ntmps12
  go_wp2_with fail
  refine (H1.out _ Hv.out).mono ?_
  rintro e w1 ⟨rfl, hb1⟩
  have Hb1 := Lib.hid hb1
  obtain ⟨c1, hg1⟩ := HC0.out _ hb1
  clear hb1
  go_wp2_with fail
  refine (HQ.out _ _ _).mono ?_
  rintro e w2 ⟨rfl, rfl⟩
  go_wp2_with fail
  refine (HK.out _ (Hv.out.below Hb1.out)).mono ?_
  rintro e w3 ⟨rfl, hb3⟩
  have Hb3 := Lib.hid (below_nx Hb1.out hb3)
  clear hb3 c1 hg1
  obtain ⟨c1, hg1⟩ := HC0.out _ Hb3.out
  go_wp2_with fail
  refine (HQ.out _ _ _).mono ?_
  rintro e w4 ⟨rfl, rfl⟩
  go_wp2_with fail
  refine (HI.out _).mono ?_
  rintro e w5 ⟨u, rfl, hu, hb5⟩
  have Hb5 := Lib.hid (below_nx Hb3.out hb5)
  have hs3 := Hb3.out.size
  have hs5 := hb5.size
  obtain ⟨ua, uc, rfl, huc, hur⟩ := hu
  rw [HYl.out] at huc ⊢
  obtain ⟨gu, rfl, hguB, hguC, hurow⟩ := hur (by rw [HYl.out]; exact hM0)
  have Hurow := Lib.hid hurow
  clear hb5 c1 hg1 hur hurow
  go_wp2_with fail
  go_loopg [39] M.length (fun m i wr => ∃ j : Nat, m = M.length - j ∧ j ≤ M.length ∧ i = .int .i64 j ∧ Hid (MRow wr w3.heap.size w5.heap.size gu (X.take j ++ Y.drop j)) ∧ Hid (Below w.heap.size w wr) ∧ w5.heap.size ≤ wr.heap.size)
  case atStart => exact ⟨0, rfl, Nat.zero_le _, rfl, by simpa using Hurow, Hb5, Nat.le_refl _⟩
  case round =>
    obtain ⟨j, rfl, hj, rfl, Hur, Hb, hsz⟩ := hrel
    obtain ⟨wo, hwo⟩ : ∃ wo, wo = wr := ⟨wr, rfl⟩
    subst hwo
    have hs := Hb.out.size
    by_cases hlt : j < M.length
    · obtain ⟨r, hr⟩ : ∃ r, M[j]? = some r := ⟨M[j], List.getElem?_eq_getElem hlt⟩
      have hrl := HRl.out j r hr
      obtain ⟨ps, psc, s00, hsd⟩ := Hrow.out.cell hr
      obtain ⟨_, _, hpe, hpc, hpr⟩ := hsd
      injection hpe with hpe1 hpe2 hpe3
      subst hpe1 hpe3
      rw [hrl] at s00 hpc
      have s0 := cell_below s00 Hb.out hgw
      have Hpr := Lib.hid hpr
      have hgs := Nat.lt_of_lt_of_le hgw hs
      have Hr2 := Lib.hid hr
      have Hrl := Lib.hid hrl
      have hZl : (X.take j ++ Y.drop j).length = M.length := by rw [mixL_len (by rw [HXl.out, HYl.out]) (by rw [HYl.out]; exact hj), HYl.out]
      have Hst := Lib.hid (mixL_set (A := X) (B := Y) (by rw [HXl.out, HYl.out]) (HXr.out j hlt))
      have HZ0 := Lib.hid (show (X.take j ++ Y.drop j).set j (idRow M.length j) = X.take j ++ Y.drop j by
        refine List.ext_getElem? fun i => ?_
        by_cases e : i = j
        · subst e; rw [List.getElem?_set_self (by omega), mixL_at (by rw [HXl.out, HYl.out]) (HYr.out i hlt)]
        · rw [List.getElem?_set_ne (fun h => e h.symm)])
      have HZl := Lib.hid hZl
      have hml : (ctRow k M j).length = (idRow M.length j).length := by rw [ctRow_len, idRow_len]
      have HA := Lib.hid (fun (t : Nat) (x : Dw) (ht : t < M.length) (hx : r[t]? = some x) (hb : bitN t k = true) => ctRow_yes (q := k) (i := j) ht hr hx hb)
      have HAn := Lib.hid (fun (t : Nat) (ht : t < M.length) (hb : bitN t k = false) => ctRow_no (q := k) (M := M) (i := j) ht hb)
      have HBn := Lib.hid (fun (t : Nat) (ht : t < M.length) => idRow_at (N := M.length) (i := j) ht hlt)
      have hAl := ctRow_len k M j
      have hBl := idRow_len M.length j
      generalize X.take j ++ Y.drop j = Z at *
      generalize ctRow k M j = A at *
      generalize idRow M.length j = D at *
      have Hml := Lib.hid hml
      have HAl := Lib.hid hAl
      have HBl := Lib.hid hBl
      have Hur0 := Lib.hid (show MRow wo w3.heap.size w5.heap.size gu (Z.set j D) by rw [HZ0.out]; exact Hur.out)
      clear hr hrl s00 hpe2 hpr hZl hml hAl hBl
      go_wp2_with fail
      go_loopg [46] M.length (fun m i wi => ∃ t : Nat, m = M.length - t ∧ t ≤ M.length ∧ i = .int .i64 t ∧ Hid (MRow wi w3.heap.size w5.heap.size gu (Z.set j (A.take t ++ D.drop t))) ∧ Hid (Below w.heap.size w wi) ∧ w5.heap.size ≤ wi.heap.size)
      case atStart => exact ⟨0, rfl, Nat.zero_le _, rfl, by simpa using Hur0, Hb, hsz⟩
      case round =>
        obtain ⟨t, rfl, ht, rfl, Hui, Hbi, hszi⟩ := hrel
        have hsi := Hbi.out.size
        by_cases hlk : t < M.length
        · obtain ⟨x, hx⟩ : ∃ x, r[t]? = some x := ⟨r[t]'(by rw [Hrl.out]; exact hlk), List.getElem?_eq_getElem _⟩
          obtain ⟨g2, rfl, hg2B, hg2C, hri⟩ := Hpr.out (by rw [Hrl.out]; omega)
          have r2 := hri.block (Hbi.out.block _ hri.lt)
          have hgl2 := r2.lt
          obtain ⟨x0, x1, x2, x3, x4⟩ := r2.cells hx
          have HX := Lib.hid (heap_alloc_new wr (.cells #[.int .i64 x.n.a, .int .i64 x.n.b, .int .i64 x.n.c, .int .i64 x.n.d, .int .i64 x.e] 70))
          have Hba := Lib.hid (Hbi.out.alloc hsi (.cells #[.int .i64 x.n.a, .int .i64 x.n.b, .int .i64 x.n.c, .int .i64 x.n.d, .int .i64 x.e] 70))
          have hxl := lt_of_block HX.out
          have Hua := Lib.hid (Hui.out.block (Below.heap_alloc _ (.cells #[.int .i64 x.n.a, .int .i64 x.n.b, .int .i64 x.n.c, .int .i64 x.n.d, .int .i64 x.e] 70) _ Hui.out.lt) fun k _ _ hk => Below.heap_alloc _ (.cells #[.int .i64 x.n.a, .int .i64 x.n.b, .int .i64 x.n.c, .int .i64 x.n.d, .int .i64 x.e] 70) _ hk)
          have hbt := Lib.hid (fun W => ibitZ t k W (by omega) hk4)
          have hone := bitZ_one (i := t) (q := k)
          have hxx := hx
          have Hx := Lib.hid hxx
          clear hxx hx r2 hri
          go_wp2_with fail
          refine (hbt.out _).mono ?_
          rintro e w6 ⟨rfl, rfl⟩
          cases hb : bitN t k with
          | false =>
            have hsame := mixL_same (A := A) (B := D) Hml.out (HAn.out t hlk hb) (HBn.out t hlk)
            have Hu7 := Lib.hid (show MRow (wr.alloc (.cells #[.int .i64 x.n.a, .int .i64 x.n.b, .int .i64 x.n.c, .int .i64 x.n.d, .int .i64 x.e] 70)) w3.heap.size w5.heap.size gu (Z.set j (A.take (t + 1) ++ D.drop (t + 1))) by rw [hsame]; exact Hua.out)
            rw [hb] at hone
            generalize bitZ t k = y at *
            clear hb hsame
            go_wp2_with fail
            go_roundg (M.length - (t + 1))
            case measure => omega
            case rel => exact ⟨t + 1, rfl, by omega, by go_num, Hu7, Hba, by simp; omega⟩
          | true =>
            have hset := mixL_set (A := A) (B := D) Hml.out (HA.out t x hlk Hx.out hb)
            have hmlen : (A.take t ++ D.drop t).length = M.length := by rw [mixL_len Hml.out (by rw [HBl.out]; exact ht), HBl.out]
            obtain ⟨be, pe, e0, hbe, hbl, hR, hpe, hput⟩ := Hua.out.entry (j := j) (t := t) (r := A.take t ++ D.drop t) (List.getElem?_set_self (by rw [HZl.out]; exact hlt)) (by rw [hmlen]; exact hlk)
            rw [hmlen] at e0 hpe
            have hp := hput x
            rw [List.set_set, hset] at hp
            have Hp := Lib.hid hp
            have fB := fun o => hR.free o
            obtain ⟨z, hz⟩ : ∃ z, (A.take t ++ D.drop t)[t]? = some z := ⟨(A.take t ++ D.drop t)[t]'(by rw [hmlen]; exact hlk), List.getElem?_eq_getElem _⟩
            obtain ⟨z0, z1, z2, z3, z4⟩ := hR.cells hz
            have hbw : w.heap.size ≤ be := by omega
            have HB7 := Lib.hid (((((Hba.out.setCell (p := ⟨be, t * 5, none⟩) hbw (.int .i64 x.n.a)).setCell (p := ⟨be, t * 5 + 1, none⟩) hbw (.int .i64 x.n.b)).setCell (p := ⟨be, t * 5 + 2, none⟩) hbw (.int .i64 x.n.c)).setCell (p := ⟨be, t * 5 + 3, none⟩) hbw (.int .i64 x.n.d)).setCell (p := ⟨be, t * 5 + 4, none⟩) hbw (.int .i64 x.e))
            have hgua := Hua.out.lt
            have hsz7 : w5.heap.size ≤ (((((((wr.alloc (.cells #[.int .i64 x.n.a, .int .i64 x.n.b, .int .i64 x.n.c, .int .i64 x.n.d, .int .i64 x.e] 70)).setCell ⟨be, t * 5, none⟩ (.int .i64 x.n.a)).setCell ⟨be, t * 5 + 1, none⟩ (.int .i64 x.n.b)).setCell ⟨be, t * 5 + 2, none⟩ (.int .i64 x.n.c)).setCell ⟨be, t * 5 + 3, none⟩ (.int .i64 x.n.d)).setCell ⟨be, t * 5 + 4, none⟩ (.int .i64 x.e)).drew).heap.size := by simp [World.setCell, World.drew]; omega
            have Hz7 := Lib.hid hsz7
            clear hsz7
            obtain ⟨y0, y1, y2, y3, y4⟩ := blk_cells5 HX.out
            rw [hb] at hone
            generalize bitZ t k = y at *
            clear hb hset hmlen hput hp hR hz
            go_wp2_with fail
            go_region
            all_goals
              go_wp2_with fail
              go_roundg (M.length - (t + 1))
              case measure => omega
              case rel => exact ⟨t + 1, rfl, by omega, by go_num, Lib.hid (Hp.out.block rfl fun _ _ _ _ => rfl), Lib.hid HB7.out.drew, Hz7.out⟩
        · obtain rfl : t = M.length := by omega
          have hu := Hui.out
          rw [List.take_of_length_le (by rw [HAl.out]; exact Nat.le_refl _), List.drop_of_length_le (by rw [HBl.out]; exact Nat.le_refl _), List.append_nil, Hst.out] at hu
          have Hu8 := Lib.hid hu
          clear hu
          go_wp2_with fail
          go_roundg (M.length - (j + 1))
          case measure => omega
          case rel => exact ⟨j + 1, rfl, by omega, by go_num, Hu8, Hbi, hszi⟩
    · obtain rfl : j = M.length := by omega
      have hu := Hur.out
      rw [List.take_of_length_le (by rw [HXl.out]; exact Nat.le_refl _), List.drop_of_length_le (by rw [HYl.out]; exact Nat.le_refl _), List.append_nil] at hu
      have HD := Lib.hid (show DSM wo w.heap.size wo.heap.size (.slice (some ⟨gu, 0, none⟩) M.length uc) X from ⟨_, _, by rw [HXl.out], by rw [HXl.out]; exact huc, fun _ => ⟨gu, rfl, by omega, hu.lt, hu.mono (by omega) hsz⟩⟩)
      clear hu
      go_wp2_with fail
      go_returns
      exact ⟨_, rfl, HD.out, Hb.out⟩
/-- ControlledMatrix. -/
theorem ictM (B C : Nat) (q : Int) (v : Value) (M : List (List Dw)) (w : World) (hv : DSM w B C v M) (he : EbM M) (hn : M.length ≤ 1048576) (hm : amps M ≤ 1048576) :
    Calls Tryz.prog 12 #[.int .i64 q, v] w fun e w' => ∃ u, e = .returned (.tuple #[u, .bool (ctMB q M)]) ∧ DSM w' w.heap.size w'.heap.size u (ctM q M) ∧ Below w.heap.size w w' := by
  have no : ctMB q M = false → ctM q M = [] := fun h => by unfold ctM; rw [h]; rfl
  cases hM : mtB M with
  | false =>
    have e : ctMB q M = false := by rw [ctMB_eq, hM]; rfl
    rw [e, no e]
    exact ictM_n1 B C q v M w hv he hn hm hM
  | true =>
    by_cases h0 : q < 0
    · have e : ctMB q M = false := by rw [ctMB_eq, decide_eq_false (show ¬ (0 ≤ q ∧ q ≤ qc M.length - 1) by omega)]; simp
      rw [e, no e]
      exact ictM_n2 B C q v M w hv he hn hm hM h0
    · by_cases h1 : qc M.length ≤ q
      · have e : ctMB q M = false := by rw [ctMB_eq, decide_eq_false (show ¬ (0 ≤ q ∧ q ≤ qc M.length - 1) by omega)]; simp
        rw [e, no e]
        exact ictM_n3 B C q v M w hv he hn hm hM (by omega) h1
      · have ed : decide (0 ≤ q ∧ q ≤ qc M.length - 1) = true := decide_eq_true (by omega)
        cases hK : kpB q.toNat M with
        | false =>
          have e : ctMB q M = false := by rw [ctMB_eq, hM, ed, hK]; rfl
          rw [e, no e]
          exact ictM_n4 B C q v M w hv he hn hm hM (by omega) (by omega) hK
        | true =>
          have e : ctMB q M = true := by rw [ctMB_eq, hM, ed, hK]; rfl
          have e2 : ctM q M = ctV q.toNat M := by unfold ctM; rw [e]; rfl
          rw [e, e2]
          exact ictM_y B C q v M w hv he hn hm hM (by omega) (by omega) hK
end Go.Proofs.YtlmiebeffdcfhaaGreat
