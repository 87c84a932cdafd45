/- The program's FormatGate: the name and the qubits in a row of strings, joined by spaces. -/
import Derived.Test.YtbnkanlebjpkfaaDoorTcLj
import Derived.Test.YtbnkanlebjpkfaaDoorGtKd
import Derived.Test.YtbnkanlebjpkfaaDoorB08
import Derived.Test.YtbnkanlebjpkfaaDoorTcF
namespace Go.Proofs.YtbnkanlebjpkfaaDoor
open Go.RowKit Go.Lib
/-- The words of a gate. -/
def gWs (k : Int) (q : List Int) : List ByteArray := ((nm k) :: q.map itoa).map toB
theorem gWs_len (k : Int) (q : List Int) : (gWs k q).length = q.length + 1 := by simp [gWs]
theorem gWs_step {k : Int} {q : List Int} {j : Nat} {x : Int} (h : q[j]? = some x) : ((gWs k q).map Value.string).take (j + 1) ++ [Value.string (toB (itoa x))] = ((gWs k q).map Value.string).take (j + 2) := by
  have e : ((gWs k q).map Value.string)[j + 1]? = some (.string (toB (itoa x))) := by
    unfold gWs
    rw [List.getElem?_map, List.getElem?_map, List.getElem?_cons_succ, List.getElem?_map, h]
    rfl
  rw [show j + 2 = (j + 1) + 1 from rfl, List.take_add_one (i := j + 1), e]
  rfl
attribute [local irreducible] World.cell?
set_option maxRecDepth 100000 in
set_option maxHeartbeats 3200000 in
theorem ifmtG (g : Gt) (w : World) (hp : HasPow w) (hn : HasNames w) :
    Calls Tryd.prog 10 #[(.agg #[.int .i64 g.k, .int .i64 g.a, .int .i64 g.b, .int .i64 g.c])] w fun e w' => e = .returned (.string (gtxt g)) ∧ Below w.heap.size w w' := by
  have Hp := Lib.hid hp
  have Hn := Lib.hid hn
  clear hp hn
  have Hv := Lib.hid (fun W => ivalidG g 4 W (by decide) (by decide))
  have HX := Lib.hid (heap_alloc_new w (.cells #[.int .i64 g.k, .int .i64 g.a, .int .i64 g.b, .int .i64 g.c] 25))
  have Hb0 := Lib.hid (show Below w.heap.size w (w.alloc (.cells #[.int .i64 g.k, .int .i64 g.a, .int .i64 g.b, .int .i64 g.c] 25)) by go_grown)
  obtain ⟨c0, c1, c2, c3⟩ := blk_cells HX.out
  unfold gtxt
  cases hok : gtB g 4 with
  | false =>
    rw [hok] at Hv
    clear hok
    go_enter Tryd.func10, Tryd.ntmps10
    go_wp2_with fail
    refine (Hv.out _).mono ?_
    rintro e w1 ⟨rfl, hb1⟩
    have Hb1 := Lib.hid (below_nx Hb0.out hb1)
    clear hb1
    go_wp2_with fail
    go_returns
    exact ⟨rfl, Hb1.out⟩
  | true =>
    rw [hok] at Hv
    have hk := (gtB_parts hok).2.1
    have hq := gqs_small hok
    have hq3 : (gqs g).length ≤ 3 := by rw [gqs_len]; exact ar_le _
    have hlen := gtU_len hk hq (gqs g).length (Nat.le_refl _)
    rw [gtU_all] at hlen
    have Hj := Lib.hid (fun b cap (hc : (gqs g).length + 1 ≤ cap) W (h : StrRow W b ((gqs g).length + 1) (fun j => (gWs g.k (gqs g)).getD j ByteArray.empty)) => by
      have := ijoinW 32 (nm g.k) ((gqs g).map itoa) b cap (by simpa using hc) W (by simpa [gWs] using h) (by simp; omega) (by show (gtT g).length ≤ _; omega)
      rw [List.length_map] at this
      exact this)
    have Hall := Lib.hid (show nm g.k ++ (((gqs g).map itoa).flatMap fun m => 32 :: m) = gtT g from rfl)
    rw [Hall.out] at Hj
    have Hnm := Lib.hid (fun W (h : HasNames W) => iname0 g.k W h)
    have Hq := Lib.hid (fun W => igqs0 g W)
    rw [← gqs_len] at Hq
    have Hqs := Lib.hid hq
    have Hstep := Lib.hid (fun j x (h : (gqs g)[j]? = some x) => gWs_step (k := g.k) h)
    have Hw1 := Lib.hid (show [nmB g.k] = (gWs g.k (gqs g)).take 1 by unfold gWs; rw [← toB_nm]; rfl)
    have hWl := gWs_len g.k (gqs g)
    generalize gtT g = T at *
    generalize gqs g = q at *
    generalize gWs g.k q = ws at *
    generalize nmB g.k = nB at *
    clear hok hk hq Hall hlen
    obtain ⟨i0, hi, hz00, hz01, hz02⟩ := info_parts infoStr12
    go_enter Tryd.func10, Tryd.ntmps10
    go_wp2_with fail
    refine (Hv.out _).mono ?_
    rintro e w1 ⟨rfl, hb1⟩
    have HX1 := Lib.hid (below_blk hb1 (lt_of_block HX.out) HX.out)
    have Hb1 := Lib.hid (below_nx Hb0.out hb1)
    clear hb1 c0 c1 c2 c3
    obtain ⟨c0, c1, c2, c3⟩ := blk_cells HX1.out
    have hxl := lt_of_block HX1.out
    go_wp2_with fail
    refine (Hnm.out _ (Hn.out.below Hb1.out)).mono ?_
    rintro e w2 ⟨rfl, rfl⟩
    have HX2 := Lib.hid (alloc_blk (.cells #[.string nB] 9) HX1.out)
    have Hs2 := Lib.hid (own_oneS w1 nB (base := w.heap.size + 1) (by omega))
    have Hb2 := Lib.hid (Hb1.out.alloc Hb1.out.size (.cells #[.string nB] 9))
    rw [show [nB].map Value.string = ((ws.map Value.string).take 1) by rw [← List.map_take, ← Hw1.out]] at Hs2
    clear c0 c1 c2 c3 hxl
    obtain ⟨c0, c1, c2, c3⟩ := blk_cells HX2.out
    have hxl := lt_of_block HX2.out
    go_wp2_with fail
    refine (Hq.out _).mono ?_
    rintro e w3 ⟨rfl, hr, hb3⟩
    have Hs3 := Lib.hid (row_belowS Hs2.out hb3)
    have Hb3 := Lib.hid (below_nx Hb2.out hb3)
    obtain ⟨cs, hrb, hcs⟩ := hr
    have Hcs := Lib.hid hcs
    have Hr := Lib.hid hrb
    rw [show (w1.alloc (.cells #[.string nB] 9)).heap.size = w1.heap.size + 1 by simp] at Hr
    obtain ⟨gq, hgq⟩ : ∃ gq, gq = w1.heap.size + 1 + 1 := ⟨_, rfl⟩
    rw [← hgq] at Hr
    clear hb3 c0 c1 c2 c3 hxl hrb hcs Hs2 HX2 HX1
    go_wp2_with fail
    go_loopw [3, 16] (fun v i wr => ∃ j : Nat, j ≤ q.length ∧ i = .int .i64 j ∧ Hid (wr.ownsRow (w.heap.size + 1) 9 1 v (j + 1) ((ws.map Value.string).take (j + 1))) ∧ Hid (wr.heap[gq]? = some (.cells cs 3 (0, 0))) ∧ Hid (Below w.heap.size w wr)) (fun _ i _ => q.length - (Go.RowKit.intOf i).toNat)
    case atStart => exact ⟨0, Nat.zero_le _, rfl, Hs3.out, Hr.out, Hb3.out⟩
    case round =>
      obtain ⟨j, hj, rfl, Ho, Hrr, Hb⟩ := hrel
      by_cases hlt : j < q.length
      · obtain ⟨x, hx⟩ : ∃ x, q[j]? = some x := ⟨q[j], List.getElem?_eq_getElem hlt⟩
        have hrow : intE.Row wr gq q := ⟨cs, Hrr.out, Hcs.out⟩
        have d0 := IRow.cell hrow hx
        have dl := hrow.lt
        have hxs := Hqs.out x (List.mem_of_getElem? hx)
        have HF := Lib.hid (fun W h => ifmtI x W (by omega) (by omega) h)
        have Hst := Lib.hid (Hstep.out j x hx)
        have hbw : w.heap.size ≤ wr.heap.size := Hb.out.size
        clear hrow hx hxs
        subst hgq
        generalize toB (itoa x) = E at *
        go_wp2_with fail
        refine (HF.out _ (Hp.out.below Hb.out)).mono ?_
        rintro e w5 ⟨rfl, hb5⟩
        have Ho5 := Lib.hid (row_belowS Ho.out hb5)
        have Hr5 := Lib.hid (below_blk hb5 (lt_of_block Hrr.out) Hrr.out)
        have Hb5 := Lib.hid (below_nx Hb.out hb5)
        have hs5 : w.heap.size < w5.heap.size := by
          rcases Ho5.out.2 with ⟨_, h⟩ | ⟨g', _, _, _, h1, h2, _⟩
          · omega
          · have := lt_of_block h2; omega
        clear hb5 Ho Hrr Hb d0 dl
        go_wp2_with (first
          | (at_builtin; refine wpList_append_own _ rfl _ _ 51 rfl (w.heap.size + 1) 9 i0 (.string ⟨#[]⟩) 1 16 Tryd.underlying51 hi hz00 hz01 hz02 rfl (by decide) _ _ _ rfl (Ho5.out.alloc _) ⟨w5.heap.size, 0, none⟩ 1 1 [.string E] rfl rfl ?d1 ?d2 ?d3 ?d4 ?d5 ?_))
        case d1 =>
          intro k u hk
          match k, hk with
          | 0, hk => simp at hk; subst hk; simp [Addr.add]
        case d2 => intro u hu; simp at hu; subst hu; rfl
        case d3 => unfold maxLen; omega
        case d4 => omega
        case d5 => simp; omega
        intro v' w6 hown' hgrow _
        have hne := own_otherS (Ho5.out.alloc (.cells #[.string E] 9)) (alloc_blk (.cells #[.string E] 9) Hr5.out) (fun cs f h => by cases h)
        have HB6 := Lib.hid ((Hb5.out.alloc (by omega) (.cells #[.string E] 9)).grown hgrow (by simp; omega) (fun p hp => by have := Ho5.out.lt p hp; omega))
        have HR6 := Lib.hid (grown_blk hgrow (alloc_blk (.cells #[.string E] 9) Hr5.out) hne)
        rw [Hst.out] at hown'
        have HO6 := Lib.hid hown'
        clear hown' hgrow hne
        go_wp2_with fail
        go_roundw
        case rel => exact ⟨j + 1, by omega, by go_num, HO6, HR6, HB6⟩
        case measure => simp [Go.RowKit.intOf]; omega
      · obtain rfl : j = q.length := by omega
        have ho := Ho.out
        rw [List.take_of_length_le (by simp [hWl])] at ho
        obtain ⟨gg, cap, rfl, hcap, hrow⟩ := own_rowS hWl (by omega) ho
        have HJ := Lib.hid (Hj.out gg cap hcap wr hrow)
        clear ho hrow
        go_wp2_with fail
        refine HJ.out.mono ?_
        rintro e w7 ⟨rfl, hb7⟩
        have Hb7 := Lib.hid (below_nx Hb.out hb7)
        clear hb7
        go_wp2_with fail
        go_returns
        exact ⟨rfl, Hb7.out⟩
end Go.Proofs.YtbnkanlebjpkfaaDoor
