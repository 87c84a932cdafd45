/- The program's FormatCircuit: the first line and a line for each gate in a row of strings, joined by newlines. -/
import Derived.Test.YtbnkanlebjpkfaaDoorTcLf
import Derived.Test.YtbnkanlebjpkfaaDoorTcH
import Derived.Test.YtbnkanlebjpkfaaDoorB10
namespace Go.Proofs.YtbnkanlebjpkfaaDoor
open Go.RowKit Go.Lib
/-- The lines of a circuit. -/
def cWs (n : Int) (L : List Gt) : List ByteArray := (hdT n :: L.map gtT).map toB
theorem cWs_len (n : Int) (L : List Gt) : (cWs n L).length = L.length + 1 := by simp [cWs]
theorem cWs_step {n : Int} {L : List Gt} {j : Nat} {x : Gt} (h : L[j]? = some x) : ((cWs n L).map Value.string).take (j + 1) ++ [Value.string (toB (gtT x))] = ((cWs n L).map Value.string).take (j + 2) := by
  have e : ((cWs n L).map Value.string)[j + 1]? = some (.string (toB (gtT x))) := by
    unfold cWs
    rw [List.getElem?_map, List.getElem?_map, List.getElem?_cons_succ, List.getElem?_map, h]
    rfl
  rw [show j + 2 = (j + 1) + 1 from rfl, List.take_add_one (i := j + 1), e]
  rfl
attribute [local irreducible] World.cell?
set_option maxRecDepth 100000 in
set_option maxHeartbeats 3200000 in
theorem ifmtC (B : Nat) (n : Int) (v : Value) (L : List Gt) (w : World) (hp : HasPow w) (hnm : HasNames w) (hv : gtE.Sl w B v L) (hm : L.length ≤ 1048576) (n0 : -9223372036854775808 ≤ n) (n1 : n ≤ 9223372036854775807) :
    Calls Tryd.prog 17 #[.agg #[.int .i64 n, v]] w fun e w' => e = .returned (.string (cTxt n L)) ∧ Below w.heap.size w w' := by
  have Hp := Lib.hid hp
  have Hnm := Lib.hid hnm
  clear hp hnm
  have HX := Lib.hid (heap_alloc_new w (.cells #[.int .i64 n, v] 39))
  have Hb0 := Lib.hid (show Below w.heap.size w (w.alloc (.cells #[.int .i64 n, v] 39)) by go_grown)
  have Hv := Lib.hid (hv.below Hb0.out)
  have H1 := Lib.hid (fun W (h : gtE.Sl W B v L) => ivalidC B n v L W h hm n0 n1)
  obtain ⟨a, cap, rfl, hcap, hr⟩ := hv
  obtain ⟨c0, c1⟩ := blk_cells2 HX.out
  unfold cTxt
  cases hok : ciB n L with
  | false =>
    rw [hok] at H1
    clear hok
    go_enter Tryd.func17, Tryd.ntmps17
    go_wp2_with fail
    refine (H1.out _ Hv.out).mono ?_
    rintro e w1 ⟨rfl, hb1⟩
    have Hb1 := Lib.hid (below_nx Hb0.out hb1)
    clear hb1
    go_wp2_with fail
    go_returns
    exact ⟨rfl, Hb1.out⟩
  | true =>
    rw [hok] at H1
    obtain ⟨hg, hn, h60⟩ := ciB_parts hok
    have hg4 : ∀ g ∈ L, gtB g 4 = true := fun g hx => gtB_mono (hg g hx)
    have hlen := cU_len hn hg4 L.length (Nat.le_refl _)
    rw [cU_all] at hlen
    have Hj := Lib.hid (fun b cap (hc : L.length + 1 ≤ cap) W (h : StrRow W b (L.length + 1) (fun j => (cWs n L).getD j ByteArray.empty)) => by
      have := ijoinW 10 (hdT n) (L.map gtT) b cap (by simpa using hc) W (by simpa [cWs] using h) (by simp; omega) (by show (cT n L).length ≤ _; omega)
      rw [List.length_map] at this
      exact this)
    have Hall := Lib.hid (show hdT n ++ ((L.map gtT).flatMap fun m => 10 :: m) = cT n L from rfl)
    rw [Hall.out] at Hj
    have Hg4 := Lib.hid hg4
    have HF := Lib.hid (fun W h => ifmtI n W n0 n1 h)
    have Hstep := Lib.hid (fun j x (h : L[j]? = some x) => cWs_step (n := n) h)
    have hWl := cWs_len n L
    have hi := itoa_len n (by omega) (by omega)
    have Hhd := Lib.hid (show [ByteArray.mk #[113, 117, 98, 105, 116, 115, 32] ++ toB (itoa n)] = (cWs n L).take 1 by
      unfold cWs
      rw [List.map_cons, List.take_succ_cons, List.take_zero]
      congr 1
      apply ByteArray.ext
      simp [toB, hdT, word7])
    have hz2 : (toB (itoa n)).size ≤ 21 := by rw [toB_size]; exact hi
    have h9 : (ByteArray.mk #[113, 117, 98, 105, 116, 115, 32]).size = 7 := rfl
    have g1 : 7 + (toB (itoa n)).size ≤ 9223372036854775807 := by omega
    have g2 : (ByteArray.mk #[113, 117, 98, 105, 116, 115, 32]).size + (toB (itoa n)).size ≤ 9223372036854775807 := by omega
    have g3 : ¬ 9223372036854775807 < 7 + (toB (itoa n)).size := by omega
    have Hr := Lib.hid hr
    clear hok hg hg4 Hall h9 hi hn hlen hr
    obtain ⟨i0, hif, hz00, hz01, hz02⟩ := info_parts infoStr12
    generalize cT n L = T at *
    generalize cWs n L = ws at *
    generalize toB (itoa n) = E at *
    go_enter Tryd.func17, Tryd.ntmps17
    go_wp2_with fail
    refine (H1.out _ Hv.out).mono ?_
    rintro e w1 ⟨rfl, hb1⟩
    have HX1 := Lib.hid (below_blk hb1 (lt_of_block HX.out) HX.out)
    have Hb1 := Lib.hid (below_nx Hb0.out hb1)
    clear hb1 c0 c1
    obtain ⟨c0, c1⟩ := blk_cells2 HX1.out
    have hxl := lt_of_block HX1.out
    go_wp2_with fail
    refine (HF.out _ (Hp.out.below Hb1.out)).mono ?_
    rintro e w3 ⟨rfl, hb3⟩
    have hz3 : w.heap.size < w3.heap.size := lt_of_block (below_blk hb3 (lt_of_block HX1.out) HX1.out)
    have HX3 := Lib.hid (alloc_blk (.cells #[.string (ByteArray.mk #[113, 117, 98, 105, 116, 115, 32] ++ E)] 9) (below_blk hb3 (lt_of_block HX1.out) HX1.out))
    have hbn := below_nx Hb1.out hb3
    have Hs3 := Lib.hid (own_oneS w3 (ByteArray.mk #[113, 117, 98, 105, 116, 115, 32] ++ E) (base := w.heap.size + 1) (by omega))
    have Hb3 := Lib.hid (hbn.alloc hbn.size (.cells #[.string (ByteArray.mk #[113, 117, 98, 105, 116, 115, 32] ++ E)] 9))
    rw [show [ByteArray.mk #[113, 117, 98, 105, 116, 115, 32] ++ E].map Value.string = ((ws.map Value.string).take 1) by rw [← List.map_take, ← Hhd.out]] at Hs3
    clear hb3 hbn c0 c1 hxl
    obtain ⟨c0, c1⟩ := blk_cells2 HX3.out
    have hxl := lt_of_block HX3.out
    go_wp2_with fail
    go_loopw [3, 17] (fun v i wr => ∃ j : Nat, j ≤ L.length ∧ i = .int .i64 j ∧ Hid (wr.ownsRow (w.heap.size + 1) 9 1 v (j + 1) ((ws.map Value.string).take (j + 1))) ∧ Hid (Below w.heap.size w wr)) (fun _ i _ => L.length - (Go.RowKit.intOf i).toNat)
    case atStart => exact ⟨0, Nat.zero_le _, rfl, Hs3.out, Hb3.out⟩
    case round =>
      obtain ⟨j, hj, rfl, Ho, Hb⟩ := hrel
      by_cases hlt : j < L.length
      · obtain ⟨gb, rfl, -, hrow⟩ := Hr.out (by omega)
        obtain ⟨x, hx⟩ : ∃ x, L[j]? = some x := ⟨L[j], List.getElem?_eq_getElem hlt⟩
        have r1 := hrow.below Hb.out hrow.lt
        obtain ⟨y0, y1, y2, y3⟩ := GRow.cells r1 hx
        have hgl := r1.lt
        have HG := Lib.hid (fun W h1 h2 => ifmtG x W h1 h2)
        rw [show gtxt x = toB (gtT x) from if_pos (Hg4.out x (List.mem_of_getElem? hx))] at HG
        have Hst := Lib.hid (Hstep.out j x hx)
        have hbw : w.heap.size ≤ wr.heap.size := Hb.out.size
        have HX5 := Lib.hid (heap_alloc_new wr (.cells #[.int .i64 x.k, .int .i64 x.a, .int .i64 x.b, .int .i64 x.c] 25))
        have Hb' := Lib.hid (show Below w.heap.size w (wr.alloc (.cells #[.int .i64 x.k, .int .i64 x.a, .int .i64 x.b, .int .i64 x.c] 25)) from Hb.out.alloc hbw _)
        have Ho' := Lib.hid (Ho.out.alloc (.cells #[.int .i64 x.k, .int .i64 x.a, .int .i64 x.b, .int .i64 x.c] 25))
        have hs' : (wr.alloc (.cells #[.int .i64 x.k, .int .i64 x.a, .int .i64 x.b, .int .i64 x.c] 25)).heap.size = wr.heap.size + 1 := by simp
        clear hrow hx r1
        generalize toB (gtT x) = F at *
        go_wp2_with fail
        refine (HG.out _ (Hp.out.below Hb'.out) (Hnm.out.below Hb'.out)).mono ?_
        rintro e w5 ⟨rfl, hb5⟩
        have Ho5 := Lib.hid (row_belowS Ho'.out hb5)
        have Hb5 := Lib.hid (below_nx Hb'.out hb5)
        have hs5 : w.heap.size < w5.heap.size := by have := hb5.size; omega
        clear hb5 Ho Hb Ho' Hb' y0 y1 y2 y3 hgl HX5 hs'
        go_wp2_with (first
          | (at_builtin; refine wpList_append_own _ rfl _ _ 51 rfl (w.heap.size + 1) 9 i0 (.string ⟨#[]⟩) 1 16 Tryd.underlying51 hif hz00 hz01 hz02 rfl (by decide) _ _ _ rfl (Ho5.out.alloc _) ⟨w5.heap.size, 0, none⟩ 1 1 [.string F] rfl rfl ?d1 ?d2 ?d3 ?d4 ?d5 ?_))
        case d1 =>
          intro k u hk
          match k, hk with
          | 0, hk => simp at hk; subst hk; simp [Addr.add]
        case d2 => intro u hu; simp at hu; subst hu; rfl
        case d3 => unfold maxLen; omega
        case d4 => omega
        case d5 => simp; omega
        intro v' w6 hown' hgrow _
        have HB6 := Lib.hid ((Hb5.out.alloc (by omega) (.cells #[.string F] 9)).grown hgrow (by simp; omega) (fun p hp => by have := Ho5.out.lt p hp; omega))
        rw [Hst.out] at hown'
        have HO6 := Lib.hid hown'
        clear hown' hgrow
        go_wp2_with fail
        go_roundw
        case rel => exact ⟨j + 1, by omega, by go_num, HO6, HB6⟩
        case measure => simp [Go.RowKit.intOf]; omega
      · obtain rfl : j = L.length := by omega
        have ho := Ho.out
        rw [List.take_of_length_le (by simp [hWl])] at ho
        obtain ⟨gg, cap, rfl, hcap, hrow⟩ := own_rowS hWl (by omega) ho
        have HJ := Lib.hid (Hj.out gg cap hcap wr hrow)
        clear ho hrow
        go_wp2_with fail
        refine HJ.out.mono ?_
        rintro e w7 ⟨rfl, hb7⟩
        have Hb7 := Lib.hid (below_nx Hb.out hb7)
        clear hb7
        go_wp2_with fail
        go_returns
        exact ⟨rfl, Hb7.out⟩
end Go.Proofs.YtbnkanlebjpkfaaDoor
