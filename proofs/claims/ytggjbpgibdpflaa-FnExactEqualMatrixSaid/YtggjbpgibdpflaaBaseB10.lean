/- BaseB10: several of our texts in one: MtA MtM. -/
import Derived.Test.YtggjbpgibdpflaaMtW
import Derived.Test.YtggjbpgibdpflaaBaseB08
import Derived.Test.YtggjbpgibdpflaaDsA
namespace Go.Proofs.Ytggjbpgibdpflaa
open Go.RowKit
theorem appB_of {M : List (List Dw)} {v : List Dw} (hM : mtB M = true) (hv : stB v = true) (hl : M.length = v.length) : appB M v = M.all fun r => rowB r v := by
  unfold appB; rw [hM, hv, decide_eq_true hl]; rfl
theorem app_step {M : List (List Dw)} {v : List Dw} {j : Nat} {r : List Dw} (hr : M[j]? = some r) : flat ((M.map fun r => rowV r v).take j) ++ fl (rowV r v) = flat ((M.map fun r => rowV r v).take (j + 1)) := by
  rw [List.take_add_one, List.getElem?_map, hr, flat_app]
  simp [flat]
attribute [local irreducible] World.cell?
set_option maxRecDepth 100000 in
set_option maxHeartbeats 3200000 in
theorem sapply_yes (B C D : Nat) (v u : Value) (M : List (List Dw)) (b : List Dw) (w : World) (hv : DSM w B C v M) (hu : DSl w D u b) (hM : mtB M = true) (hb : stB b = true) (hl : M.length = b.length) (hm : amps M ≤ 1048576) :
    Calls Try.prog 44 #[v, u] w fun e w' => (∃ r, e = .returned (.tuple #[r, .bool (appB M b)]) ∧ DSl w' w.heap.size r (appL M b)) ∧ Below w.heap.size w w' := by
  obtain ⟨i0, hi, hz0, hz1, hz2⟩ := info_parts infoDw
  have hlen := stB_len hb
  have H1 := Lib.hid (svalidMt B C v M w hv (by omega) hm)
  have H2 := Lib.hid (fun W (h : DSl W D u b) => svalidSt D u b W h (by omega))
  rw [hM] at H1
  rw [hb] at H2
  have Hv := Lib.hid hv
  have Hu := Lib.hid hu
  have Hrl := Lib.hid (fun (j : Nat) (r : List Dw) (h : M[j]? = some r) => (mtB_row hM h).1)
  have Hrow := Lib.hid (fun W (p : Value) (r : List Dw) (h : DSl W B p r) (h' : DSl W D u b) (hlr : r.length = M.length) => srow B D p u r b W h h' (hlr.trans hl) (by omega))
  have hA := appB_of hM hb hl
  obtain ⟨SB, hSB⟩ : ∃ SB, SB = appB M b := ⟨_, rfl⟩
  obtain ⟨SL, hSL⟩ : ∃ SL, SL = appL M b := ⟨_, rfl⟩
  rw [← hSB, ← hSL]
  have HSB := Lib.hid (hSB.trans hA)
  have HSL := Lib.hid (show SL = if SB then M.map (fun r => rowV r b) else [] by rw [hSB]; exact hSL)
  clear hA hSB hSL hM hb
  obtain ⟨a, cap, rfl, hcap, hr⟩ := hv
  obtain ⟨a', cap', rfl, hcap', -⟩ := hu
  rw [← hl] at Hrow H2 hcap' Hu hlen ⊢
  have Hr := Lib.hid hr
  clear hr hl
  have hd2 : ((M.length : Int) != M.length) = false := by simp
  go_enter Try.func44, Try.ntmps44
  go_wp2_with fail
  refine (H1.out).mono ?_
  rintro e w1 ⟨rfl, hb1⟩
  have Hb1 := Lib.hid hb1
  have Hu1 := Lib.hid (Hu.out.below hb1)
  clear hb1
  go_wp2_with fail
  refine (H2.out _ Hu1.out).mono ?_
  rintro e w2 ⟨rfl, hb2⟩
  have Hb2 := Lib.hid (Hb1.out.trans (hb2.mono Hb1.out.size))
  have hs2 := Hb2.out.size
  clear hb2 Hb1 Hu1 H1 H2
  go_wp2_with fail
  go_loopg [6, 7] M.length (fun n out i wr => ∃ j : Nat, n = M.length - j ∧ j ≤ M.length ∧ i = .int .i64 j ∧ Hid (wr.ownsRow w2.heap.size 60 5 out j (flat ((M.map fun r => rowV r b).take j))) ∧ Hid ((M.take j).all (fun r => rowB r b) = true) ∧ Hid (Below w.heap.size w wr) ∧ w2.heap.size ≤ wr.heap.size)
  case atStart => exact ⟨0, rfl, Nat.zero_le _, rfl, own_new rfl, Lib.hid (show (List.take 0 M).all _ = true from rfl), Lib.hid (Hb2.out.alloc hs2 _), by simp⟩
  case round =>
    obtain ⟨j, rfl, hj, rfl, Hown, Hall, Hb, hsz⟩ := hrel
    have hs := Hb.out.size
    by_cases hlt : j < M.length
    · obtain ⟨g, rfl, _, _, hrow⟩ := Hr.out (by omega)
      obtain ⟨r, hr⟩ : ∃ r, M[j]? = some r := ⟨M[j], List.getElem?_eq_getElem hlt⟩
      have r1 := hrow.block (Hb.out.block _ hrow.lt) fun k _ _ hk => Hb.out.block k hk
      obtain ⟨p, pc, c0, hd1⟩ := r1.cell hr
      have hgl := r1.lt
      have Hx := Lib.hid (Hrow.out wr _ r hd1.dsl (Hu.out.block fun k _ hk => Hb.out.block k hk) (Hrl.out j r hr))
      have Hstep := Lib.hid (app_step (v := b) hr)
      have Hat := Lib.hid (all_take (p := fun r => rowB r b) hr Hall.out)
      have Hno := Lib.hid (fun h => all_no (p := fun r => rowB r b) hr h)
      clear hd1 r1 hrow hr
      generalize rowV r b = x at *
      generalize rowB r b = t at *
      go_wp2_with fail
      refine (Hx.out).mono ?_
      rintro e w3 ⟨rfl, hb3⟩
      have Hown3 := Lib.hid ((row_below Hown.out hb3).alloc (.cells #[.int .i64 x.n.a, .int .i64 x.n.b, .int .i64 x.n.c, .int .i64 x.n.d, .int .i64 x.e] 60))
      have Hb3 := Lib.hid (Hb.out.trans (hb3.mono hs))
      have hs3 := Hb3.out.size
      have hsz3 := Nat.le_trans hsz hb3.size
      have Hbx := Lib.hid (heap_alloc_new w3 (.cells #[.int .i64 x.n.a, .int .i64 x.n.b, .int .i64 x.n.c, .int .i64 x.n.d, .int .i64 x.e] 60))
      obtain ⟨q0, q1, q2, q3, q4⟩ := blk_cells5 Hbx.out
      clear hb3 Hown Hb Hx c0
      cases t with
      | false =>
        have hS : (M.all fun r => rowB r b) = false := Hno.out rfl
        obtain rfl : SB = false := HSB.out.trans hS
        obtain rfl : SL = [] := HSL.out
        go_wp2_with fail
        go_returns
        exact ⟨⟨_, rfl, DSl.nil⟩, by have := Hb3.out; go_grown⟩
      | true =>
        go_wp2_with (first
          | (at_builtin; refine wpList_append_own _ rfl _ _ 31 rfl w2.heap.size 60 i0 (.agg #[.int .i64 0, .int .i64 0, .int .i64 0, .int .i64 0, .int .i64 0]) 5 40 Try.underlying31 hi hz0 hz1 hz2 rfl (by decide) _ _ _ rfl (Hown3.out.alloc _) ⟨w3.heap.size + 1, 0, none⟩ 1 1 (fl x) rfl rfl (by simpa using fl_new (w3.alloc (.cells #[.int .i64 x.n.a, .int .i64 x.n.b, .int .i64 x.n.c, .int .i64 x.n.d, .int .i64 x.e] 60)) x 60) (fl_plain _) ?d3 ?d4 ?d5 ?_))
        case d3 => unfold maxLen; omega
        case d4 => omega
        case d5 => first | omega | (simp; omega) | (simp; omega)
        intro v' w4 hown' hgrow _
        have HB4 := Lib.hid (((Hb3.out.alloc hs3 (.cells #[.int .i64 x.n.a, .int .i64 x.n.b, .int .i64 x.n.c, .int .i64 x.n.d, .int .i64 x.e] 60)).alloc (by simp; omega) (.cells #[.int .i64 x.n.a, .int .i64 x.n.b, .int .i64 x.n.c, .int .i64 x.n.d, .int .i64 x.e] 60)).grown hgrow (by simp; omega) (fun q hq => by have := Hown3.out.lt q hq; omega))
        have hsz4 : w2.heap.size ≤ w4.heap.size := by have := hgrow.size; simp at this; omega
        rw [Hstep.out] at hown'
        have Hown4 := Lib.hid hown'
        clear hown' hgrow
        go_wp2_with fail
        go_roundg (M.length - (j + 1))
        case measure => omega
        case rel => exact ⟨j + 1, rfl, by omega, by go_num, Hown4.out, Lib.hid Hat.out, HB4, hsz4⟩
    · obtain rfl : j = M.length := by omega
      have hall := Hall.out
      rw [List.take_length] at hall
      obtain rfl : SB = true := HSB.out.trans hall
      obtain rfl : SL = M.map (fun r => rowV r b) := HSL.out
      have hown := Hown.out
      rw [show M.length = (M.map fun r => rowV r b).length by rw [List.length_map], List.take_length] at hown
      have Hd := Lib.hid ((DSl.of_own hown).mono hs2)
      clear hown
      go_wp2_with fail
      go_returns
      exact ⟨⟨_, rfl, Hd.out⟩, Hb.out⟩
set_option maxRecDepth 100000 in
set_option maxHeartbeats 1600000 in
theorem sapply_no0 (B C D : Nat) (v u : Value) (M : List (List Dw)) (b : List Dw) (w : World) (hv : DSM w B C v M) (hu : DSl w D u b) (hn : M.length ≤ 1048576) (hm : amps M ≤ 1048576) (hM : mtB M = false) :
    Calls Try.prog 44 #[v, u] w fun e w' => (∃ r, e = .returned (.tuple #[r, .bool false]) ∧ DSl w' w.heap.size r []) ∧ Below w.heap.size w w' := by
  have H1 := Lib.hid (svalidMt B C v M w hv hn hm)
  rw [hM] at H1
  clear hM
  obtain ⟨a, cap, rfl, -, -⟩ := hv
  obtain ⟨a', cap', rfl, -, -⟩ := hu
  go_enter Try.func44, Try.ntmps44
  go_wp2_with fail
  refine (H1.out).mono ?_
  rintro e w1 ⟨rfl, hb1⟩
  have Hb1 := Lib.hid hb1
  have hs1 := hb1.size
  clear hb1
  go_wp2_with fail
  go_returns
  exact ⟨⟨_, rfl, DSl.nil⟩, by have := Hb1.out; go_grown⟩
set_option maxRecDepth 100000 in
set_option maxHeartbeats 1600000 in
theorem sapply_no1 (B C D : Nat) (v u : Value) (M : List (List Dw)) (b : List Dw) (w : World) (hv : DSM w B C v M) (hu : DSl w D u b) (hn : M.length ≤ 1048576) (hn' : b.length ≤ 1048576) (hm : amps M ≤ 1048576) (hM : mtB M = true) (hb : stB b = false) :
    Calls Try.prog 44 #[v, u] w fun e w' => (∃ r, e = .returned (.tuple #[r, .bool false]) ∧ DSl w' w.heap.size r []) ∧ Below w.heap.size w w' := by
  have H1 := Lib.hid (svalidMt B C v M w hv hn hm)
  have H2 := Lib.hid (fun W (h : DSl W D u b) => svalidSt D u b W h hn')
  have Hu := Lib.hid hu
  rw [hM] at H1
  rw [hb] at H2
  clear hM hb
  obtain ⟨a, cap, rfl, -, -⟩ := hv
  obtain ⟨a', cap', rfl, -, -⟩ := hu
  go_enter Try.func44, Try.ntmps44
  go_wp2_with fail
  refine (H1.out).mono ?_
  rintro e w1 ⟨rfl, hb1⟩
  have Hb1 := Lib.hid hb1
  have Hu1 := Lib.hid (Hu.out.below hb1)
  clear hb1
  go_wp2_with fail
  refine (H2.out _ Hu1.out).mono ?_
  rintro e w2 ⟨rfl, hb2⟩
  have Hb2 := Lib.hid (Hb1.out.trans (hb2.mono Hb1.out.size))
  have hs2 := Hb2.out.size
  clear hb2
  go_wp2_with fail
  go_returns
  exact ⟨⟨_, rfl, DSl.nil⟩, by have := Hb2.out; go_grown⟩
set_option maxRecDepth 100000 in
set_option maxHeartbeats 1600000 in
theorem sapply_no2 (B C D : Nat) (v u : Value) (M : List (List Dw)) (b : List Dw) (w : World) (hv : DSM w B C v M) (hu : DSl w D u b) (hn : M.length ≤ 1048576) (hn' : b.length ≤ 1048576) (hm : amps M ≤ 1048576) (hM : mtB M = true) (hb : stB b = true) (hne : M.length ≠ b.length) :
    Calls Try.prog 44 #[v, u] w fun e w' => (∃ r, e = .returned (.tuple #[r, .bool false]) ∧ DSl w' w.heap.size r []) ∧ Below w.heap.size w w' := by
  have H1 := Lib.hid (svalidMt B C v M w hv hn hm)
  have H2 := Lib.hid (fun W (h : DSl W D u b) => svalidSt D u b W h hn')
  have Hu := Lib.hid hu
  rw [hM] at H1
  rw [hb] at H2
  clear hM hb
  obtain ⟨a, cap, rfl, -, -⟩ := hv
  obtain ⟨a', cap', rfl, -, -⟩ := hu
  have hd2 : ((M.length : Int) != b.length) = true := by simp; omega
  go_enter Try.func44, Try.ntmps44
  go_wp2_with fail
  refine (H1.out).mono ?_
  rintro e w1 ⟨rfl, hb1⟩
  have Hb1 := Lib.hid hb1
  have Hu1 := Lib.hid (Hu.out.below hb1)
  clear hb1
  go_wp2_with fail
  refine (H2.out _ Hu1.out).mono ?_
  rintro e w2 ⟨rfl, hb2⟩
  have Hb2 := Lib.hid (Hb1.out.trans (hb2.mono Hb1.out.size))
  have hs2 := Hb2.out.size
  clear hb2
  go_wp2_with fail
  go_returns
  exact ⟨⟨_, rfl, DSl.nil⟩, by have := Hb2.out; go_grown⟩
theorem sapply (B C D : Nat) (v u : Value) (M : List (List Dw)) (b : List Dw) (w : World) (hv : DSM w B C v M) (hu : DSl w D u b) (hn : M.length ≤ 1048576) (hn' : b.length ≤ 1048576) (hm : amps M ≤ 1048576) :
    Calls Try.prog 44 #[v, u] w fun e w' => (∃ r, e = .returned (.tuple #[r, .bool (appB M b)]) ∧ DSl w' w.heap.size r (appL M b)) ∧ Below w.heap.size w w' := by
  have hno : appB M b = false → appL M b = [] := fun h => if_neg (by rw [h]; decide)
  cases hM : mtB M with
  | false =>
    have h : appB M b = false := by unfold appB; rw [hM]; rfl
    rw [hno h, h]; exact sapply_no0 B C D v u M b w hv hu hn hm hM
  | true =>
    cases hb : stB b with
    | false =>
      have h : appB M b = false := by unfold appB; rw [hM, hb]; rfl
      rw [hno h, h]; exact sapply_no1 B C D v u M b w hv hu hn hn' hm hM hb
    | true =>
      by_cases hl : M.length = b.length
      · exact sapply_yes B C D v u M b w hv hu hM hb hl hm
      · have h : appB M b = false := by unfold appB; rw [hM, hb, decide_eq_false hl]; rfl
        rw [hno h, h]; exact sapply_no2 B C D v u M b w hv hu hn hn' hm hM hb hl
end Go.Proofs.Ytggjbpgibdpflaa
namespace Go.Proofs.Ytggjbpgibdpflaa
open Go.RowKit
theorem mulMB_of {A B : List (List Dw)} (hA : mtB A = true) (hB : mtB B = true) (hl : A.length = B.length) : mulMB A B = (List.range B.length).all fun k => appB A (col B k) := by
  unfold mulMB; rw [hA, hB, decide_eq_true hl]; rfl
theorem mulML_len (A B : List (List Dw)) : (mulML A B).length = B.length := by rw [mulML, List.length_map, List.length_range]
theorem mulML_step {A B : List (List Dw)} {j : Nat} (hj : j < B.length) : (mulML A B).take (j + 1) = (mulML A B).take j ++ [appL A (col B j)] := by
  rw [List.take_add_one, mulML, List.getElem?_map, List.getElem?_range hj]
  rfl
theorem range_take (n j : Nat) (h : j ≤ n) : (List.range n).take j = List.range j := by rw [List.take_range, Nat.min_eq_left h]
attribute [local irreducible] World.cell?
set_option maxRecDepth 100000 in
set_option maxHeartbeats 3200000 in
theorem smulM_yes (P Q R S : Nat) (v u : Value) (A B : List (List Dw)) (w : World) (hv : DSM w P Q v A) (hu : DSM w R S u B) (hA : mtB A = true) (hB : mtB B = true) (hl : A.length = B.length) (hm : amps A ≤ 1048576) (hm' : amps B ≤ 1048576) :
    Calls Try.prog 22 #[v, u] w fun e w' => (∃ r, e = .returned (.tuple #[r, .bool (mulMB A B)]) ∧ DSM w' w.heap.size w'.heap.size r (mulM A B)) ∧ Below w.heap.size w w' := by
  obtain ⟨i0, hi, hz0, hz1, hz2⟩ := info_parts infoDs
  have hlen := mtB_len hB
  have H1 := Lib.hid (svalidMt P Q v A w hv (by omega) hm)
  have H2 := Lib.hid (fun W (h : DSM W R S u B) => svalidMt R S u B W h (by omega) hm')
  rw [hA] at H1
  rw [hB] at H2
  have Hv := Lib.hid hv
  have Hu := Lib.hid hu
  have Hcol := Lib.hid (fun (k : Nat) (hk : k < B.length) W (h : DSM W R S u B) => scolumn R S u B k W h (fun r hr => by rw [((mtB_iff.1 hB).2 r hr).1]; exact hk) (by omega) (by omega))
  have Happ := Lib.hid (fun (k : Nat) (c : Value) (D : Nat) W (h : DSM W P Q v A) (h' : DSl W D c (col B k)) => sapply P Q D v c A (col B k) W h h' (by omega) (by rw [col_len]; omega) hm)
  have hMB := mulMB_of hA hB hl
  obtain ⟨SB, hSB⟩ : ∃ SB, SB = mulMB A B := ⟨_, rfl⟩
  obtain ⟨SL, hSL⟩ : ∃ SL, SL = mulM A B := ⟨_, rfl⟩
  rw [← hSB, ← hSL]
  have HSB := Lib.hid (hSB.trans hMB)
  have HSL := Lib.hid (show SL = if SB then colsM (mulML A B) else [] by rw [hSB]; exact hSL)
  have Hlen := Lib.hid (fun (k : Nat) (h : appB A (col B k) = true) => (appL_len h).trans hl)
  clear hMB hSB hSL hA hB
  obtain ⟨a, cap, rfl, hcap, -⟩ := hv
  obtain ⟨a', cap', rfl, hcap', -⟩ := hu
  rw [hl] at Happ H1 hcap Hv ⊢
  clear hl
  have hd2 : ((B.length : Int) != B.length) = false := by simp
  go_enter Try.func22, Try.ntmps22
  go_wp2_with fail
  refine (H1.out).mono ?_
  rintro e w1 ⟨rfl, hb1⟩
  have Hb1 := Lib.hid hb1
  have Hu1 := Lib.hid (Hu.out.below hb1)
  clear hb1
  go_wp2_with fail
  refine (H2.out _ Hu1.out).mono ?_
  rintro e w2 ⟨rfl, hb2⟩
  have Hb2 := Lib.hid (Hb1.out.trans (hb2.mono Hb1.out.size))
  have hs2 := Hb2.out.size
  clear hb2 Hb1 Hu1 H1 H2
  go_wp2_with fail
  go_loopg [6, 7] B.length (fun n out i wr => ∃ (j : Nat) (vs : List Value), n = B.length - j ∧ j ≤ B.length ∧ i = .int .i64 j ∧ Hid (wr.ownsRow w2.heap.size 31 1 out j vs) ∧ Hid (RwS wr w2.heap.size wr.heap.size vs ((mulML A B).take j)) ∧ Hid (∀ k, k < j → appB A (col B k) = true) ∧ Hid (Below w.heap.size w wr) ∧ w2.heap.size ≤ wr.heap.size)
  case atStart => exact ⟨0, [], rfl, Nat.zero_le _, rfl, ownM_new rfl, RwS.nil, Lib.hid (fun k hk => absurd hk (Nat.not_lt_zero _)), Lib.hid (Hb2.out.alloc hs2 _), by simp⟩
  case round =>
    obtain ⟨j, vs, rfl, hj, rfl, Hown, Hrows, Hall, Hb, hsz⟩ := hrel
    have hs := Hb.out.size
    by_cases hlt : j < B.length
    · have Hc := Lib.hid (Hcol.out j hlt wr (Hu.out.block fun k _ _ hk => Hb.out.block k hk))
      have Hap := Lib.hid (fun c D W => Happ.out j c D W)
      have Hst := Lib.hid (mulML_step (A := A) hlt)
      have Hln := Lib.hid (Hlen.out j)
      have Hat := Lib.hid (fun (h : appB A (col B j) = true) k (hk : k < j + 1) => by
        rcases Nat.lt_succ_iff_lt_or_eq.1 hk with h' | rfl
        · exact Hall.out k h'
        · exact h)
      have Hno := Lib.hid (fun (h : appB A (col B j) = false) => (show ((List.range B.length).all fun k => appB A (col B k)) = false from by
        rw [List.all_eq_false]; exact ⟨j, List.mem_range.2 hlt, by rw [h]; decide⟩))
      generalize appB A (col B j) = t at *
      generalize appL A (col B j) = r at *
      go_wp2_with fail
      refine (Hc.out).mono ?_
      rintro e w3 ⟨c, rfl, hdc, hb3⟩
      have Hv3 := Lib.hid (Hv.out.block fun k _ _ hk => (hb3.block k (by omega)).trans (Hb.out.block k hk))
      have Hc3 := Lib.hid (Hap.out c _ w3 Hv3.out hdc)
      have Hb3 := Lib.hid (Hb.out.trans (hb3.mono hs))
      have Hown3 := Lib.hid (row_below Hown.out hb3)
      have Hrows3 := Lib.hid ((Hrows.out.block fun k _ _ hk => hb3.block k hk).mono (Nat.le_refl _) hb3.size)
      have hs3 := Hb3.out.size
      have hsz3 := Nat.le_trans hsz hb3.size
      clear hb3 hdc Hown Hrows Hb Hc Hv3
      go_wp2_with fail
      refine (Hc3.out).mono ?_
      rintro e w4 ⟨⟨q, rfl, hdq⟩, hb4⟩
      have Hown4 := Lib.hid (row_below Hown3.out hb4)
      have Hrows4 := Lib.hid (Hrows3.out.upto.snoc hdq.upto hsz3 hb4.size fun k _ _ hk => hb4.block k hk)
      have Hb4 := Lib.hid (Hb3.out.trans (hb4.mono hs3))
      have hs4 := Hb4.out.size
      have hsz4 := Nat.le_trans hsz3 hb4.size
      obtain ⟨p, pc, rfl, -, -⟩ := hdq
      clear hb4 Hown3 Hrows3 Hb3 Hc3
      cases t with
      | false =>
        obtain rfl : SB = false := HSB.out.trans (Hno.out rfl)
        obtain rfl : SL = [] := HSL.out
        go_wp2_with fail
        go_returns
        exact ⟨⟨_, rfl, DSM.nil⟩, by have := Hb4.out; go_grown⟩
      | true =>
        rw [← Hst.out] at Hrows4
        go_wp2_with (first
          | (at_builtin; refine wpList_append_own _ rfl _ _ 24 rfl w2.heap.size 31 i0 (.slice none 0 0) 1 24 Try.underlying24 hi hz0 hz1 hz2 rfl (by decide) _ _ _ rfl (Hown4.out.alloc _) ⟨w4.heap.size, 0, none⟩ 1 1 [.slice p r.length pc] rfl rfl (slice_new _ _ _) (by intro u hu; simp at hu; subst hu; rfl) ?d3 ?d4 ?d5 ?_))
        case d3 => unfold maxLen; omega
        case d4 => omega
        case d5 => first | omega | (simp; omega)
        intro v' w5 hown' hgrow _
        have HB5 := Lib.hid ((Hb4.out.alloc hs4 (.cells #[.slice p r.length pc] 31)).grown hgrow (by simp; omega) (fun q hq => by have := Hown4.out.lt q hq; omega))
        have Hrows5 := Lib.hid (((Hrows4.out.block fun k _ _ hk => Below.heap_alloc _ _ _ hk).grown (Hown4.out.alloc _) hgrow).upto)
        have hsz5 : w2.heap.size ≤ w5.heap.size := by have := hgrow.size; simp at this; omega
        have Hown5 := Lib.hid hown'
        clear hown' hgrow
        go_wp2_with fail
        go_roundg (B.length - (j + 1))
        case measure => omega
        case rel => exact ⟨j + 1, _, rfl, by omega, by go_num, Hown5.out, Hrows5, Lib.hid (Hat.out trivial), HB5, hsz5⟩
    · obtain rfl : j = B.length := by omega
      have hall : ((List.range B.length).all fun k => appB A (col B k)) = true := by
        rw [List.all_eq_true]; exact fun k hk => Hall.out k (List.mem_range.1 hk)
      obtain rfl : SB = true := HSB.out.trans hall
      obtain rfl : SL = colsM (mulML A B) := HSL.out
      have hown := Hown.out
      have hrows := Hrows.out
      rw [List.take_of_length_le (by rw [mulML_len]; exact Nat.le_refl _)] at hrows
      rw [show B.length = (mulML A B).length from (mulML_len A B).symm] at hown
      have hd := DSM.of_own hown hrows (Nat.le_refl _)
      have Hcs := Lib.hid (scolumns _ _ _ _ wr hd (fun r hr => by
        obtain ⟨k, hk, rfl⟩ := List.mem_map.1 hr
        rw [mulML_len, Hlen.out k (Hall.out k (List.mem_range.1 hk))]
        exact Nat.le_refl _) (by rw [mulML_len]; omega))
      clear hown hrows hd
      go_wp2_with fail
      refine (Hcs.out).mono ?_
      rintro e w6 ⟨q, rfl, hdq, hb6⟩
      have Hdq := Lib.hid (hdq.mono (D := w.heap.size) (E := w6.heap.size) hs (Nat.le_refl _))
      have Hb6 := Lib.hid (Hb.out.trans (hb6.mono hs))
      clear hb6 hdq
      go_wp2_with fail
      go_returns
      exact ⟨⟨_, rfl, Hdq.out⟩, Hb6.out⟩
set_option maxRecDepth 100000 in
set_option maxHeartbeats 1600000 in
theorem smulM_no0 (P Q R S : Nat) (v u : Value) (M N : List (List Dw)) (w : World) (hv : DSM w P Q v M) (hu : DSM w R S u N) (hn : M.length ≤ 1048576) (hm : amps M ≤ 1048576) (hM : mtB M = false) :
    Calls Try.prog 22 #[v, u] w fun e w' => (∃ r, e = .returned (.tuple #[r, .bool false]) ∧ DSM w' w.heap.size w'.heap.size r []) ∧ Below w.heap.size w w' := by
  have H1 := Lib.hid (svalidMt P Q v M w hv hn hm)
  rw [hM] at H1
  clear hM
  obtain ⟨a, cap, rfl, -, -⟩ := hv
  obtain ⟨a', cap', rfl, -, -⟩ := hu
  go_enter Try.func22, Try.ntmps22
  go_wp2_with fail
  refine (H1.out).mono ?_
  rintro e w1 ⟨rfl, hb1⟩
  have Hb1 := Lib.hid hb1
  have hs1 := hb1.size
  clear hb1
  go_wp2_with fail
  go_returns
  exact ⟨⟨_, rfl, DSM.nil⟩, by have := Hb1.out; go_grown⟩
set_option maxRecDepth 100000 in
set_option maxHeartbeats 1600000 in
theorem smulM_no1 (P Q R S : Nat) (v u : Value) (M N : List (List Dw)) (w : World) (hv : DSM w P Q v M) (hu : DSM w R S u N) (hn : M.length ≤ 1048576) (hn' : N.length ≤ 1048576) (hm : amps M ≤ 1048576) (hm' : amps N ≤ 1048576) (hM : mtB M = true) (hb : mtB N = false) :
    Calls Try.prog 22 #[v, u] w fun e w' => (∃ r, e = .returned (.tuple #[r, .bool false]) ∧ DSM w' w.heap.size w'.heap.size r []) ∧ Below w.heap.size w w' := by
  have H1 := Lib.hid (svalidMt P Q v M w hv hn hm)
  have H2 := Lib.hid (fun W (h : DSM W R S u N) => svalidMt R S u N W h hn' hm')
  have Hu := Lib.hid hu
  rw [hM] at H1
  rw [hb] at H2
  clear hM hb
  obtain ⟨a, cap, rfl, -, -⟩ := hv
  obtain ⟨a', cap', rfl, -, -⟩ := hu
  go_enter Try.func22, Try.ntmps22
  go_wp2_with fail
  refine (H1.out).mono ?_
  rintro e w1 ⟨rfl, hb1⟩
  have Hb1 := Lib.hid hb1
  have Hu1 := Lib.hid (Hu.out.below hb1)
  clear hb1
  go_wp2_with fail
  refine (H2.out _ Hu1.out).mono ?_
  rintro e w2 ⟨rfl, hb2⟩
  have Hb2 := Lib.hid (Hb1.out.trans (hb2.mono Hb1.out.size))
  have hs2 := Hb2.out.size
  clear hb2
  go_wp2_with fail
  go_returns
  exact ⟨⟨_, rfl, DSM.nil⟩, by have := Hb2.out; go_grown⟩
set_option maxRecDepth 100000 in
set_option maxHeartbeats 1600000 in
theorem smulM_no2 (P Q R S : Nat) (v u : Value) (M N : List (List Dw)) (w : World) (hv : DSM w P Q v M) (hu : DSM w R S u N) (hn : M.length ≤ 1048576) (hn' : N.length ≤ 1048576) (hm : amps M ≤ 1048576) (hm' : amps N ≤ 1048576) (hM : mtB M = true) (hb : mtB N = true) (hne : M.length ≠ N.length) :
    Calls Try.prog 22 #[v, u] w fun e w' => (∃ r, e = .returned (.tuple #[r, .bool false]) ∧ DSM w' w.heap.size w'.heap.size r []) ∧ Below w.heap.size w w' := by
  have H1 := Lib.hid (svalidMt P Q v M w hv hn hm)
  have H2 := Lib.hid (fun W (h : DSM W R S u N) => svalidMt R S u N W h hn' hm')
  have Hu := Lib.hid hu
  rw [hM] at H1
  rw [hb] at H2
  clear hM hb
  obtain ⟨a, cap, rfl, -, -⟩ := hv
  obtain ⟨a', cap', rfl, -, -⟩ := hu
  have hd2 : ((M.length : Int) != N.length) = true := by simp; omega
  go_enter Try.func22, Try.ntmps22
  go_wp2_with fail
  refine (H1.out).mono ?_
  rintro e w1 ⟨rfl, hb1⟩
  have Hb1 := Lib.hid hb1
  have Hu1 := Lib.hid (Hu.out.below hb1)
  clear hb1
  go_wp2_with fail
  refine (H2.out _ Hu1.out).mono ?_
  rintro e w2 ⟨rfl, hb2⟩
  have Hb2 := Lib.hid (Hb1.out.trans (hb2.mono Hb1.out.size))
  have hs2 := Hb2.out.size
  clear hb2
  go_wp2_with fail
  go_returns
  exact ⟨⟨_, rfl, DSM.nil⟩, by have := Hb2.out; go_grown⟩
theorem smulM (P Q R S : Nat) (v u : Value) (A B : List (List Dw)) (w : World) (hv : DSM w P Q v A) (hu : DSM w R S u B) (hn : A.length ≤ 1048576) (hn' : B.length ≤ 1048576) (hm : amps A ≤ 1048576) (hm' : amps B ≤ 1048576) :
    Calls Try.prog 22 #[v, u] w fun e w' => (∃ r, e = .returned (.tuple #[r, .bool (mulMB A B)]) ∧ DSM w' w.heap.size w'.heap.size r (mulM A B)) ∧ Below w.heap.size w w' := by
  have hno : mulMB A B = false → mulM A B = [] := fun h => if_neg (by rw [h]; decide)
  cases hA : mtB A with
  | false =>
    have h : mulMB A B = false := by unfold mulMB; rw [hA]; rfl
    rw [hno h, h]; exact smulM_no0 P Q R S v u A B w hv hu hn hm hA
  | true =>
    cases hB : mtB B with
    | false =>
      have h : mulMB A B = false := by unfold mulMB; rw [hA, hB]; rfl
      rw [hno h, h]; exact smulM_no1 P Q R S v u A B w hv hu hn hn' hm hm' hA hB
    | true =>
      by_cases hl : A.length = B.length
      · exact smulM_yes P Q R S v u A B w hv hu hA hB hl hm hm'
      · have h : mulMB A B = false := by unfold mulMB; rw [hA, hB, decide_eq_false hl]; rfl
        rw [hno h, h]; exact smulM_no2 P Q R S v u A B w hv hu hn hn' hm hm' hA hB hl
end Go.Proofs.Ytggjbpgibdpflaa
